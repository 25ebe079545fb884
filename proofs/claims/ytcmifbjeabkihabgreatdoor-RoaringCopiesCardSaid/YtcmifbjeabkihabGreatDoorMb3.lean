/- Walks: Select of words and of runs (cut from stages 5 and 6). -/
import Derived.Test.YtcmifbjeabkihabGreatDoorMb2
import Derived.Test.YtcmifbjeabkihabGreatDoorMb0
import Derived.Test.YtcmifbjeabkihabGreatDoorMa6
import Derived.BigQuiet
import Derived.Deep.QuietTactic
import Derived.Test.YtcmifbjeabkihabGreatDoorMa3
import Derived.Test.YtcmifbjeabkihabGreatDoorMa9
import Derived.Test.YtcmifbjeabkihabGreatDoorMa7
/- Walks: Clone and SortFunc of spans: what is told are the same spans, their begins rising. -/
namespace Go.Proofs.YtcmifbjeabkihabGreatDoor
open Go.RowKit
set_option linter.unusedVariables false

set_option maxHeartbeats 400000 in
theorem cloneSp_any (v : Value) (l : List Sn) (lo : Nat) (w : World) (hv : Gs2 eSp w lo w.heap.size v l) (hb : l.length ≤ 100000000) :
    Calls Tryz.prog 52 #[v] w fun e w' => ∃ v', e = .returned v' ∧ Gw2 eSp w' w.heap.size v' l ∧ Below w.heap.size w w' := by
  have hv0 := hv
  obtain ⟨A, c, rfl, hc0, -, -, hbt⟩ := hv
  cases A with
  | none =>
    obtain rfl := hc0 rfl
    have hl : l = [] := by
      by_cases h : l = []
      · exact h
      · obtain ⟨b, off, e, _⟩ := hbt h
        cases e
    subst hl
    clear hc0 hbt hv0
    have hq := fun W n c => Lib.run_eql_slice_nil (P := Tryz.prog) W 22 39 none n c 0 0 Tryz.underlying22
    simp only [Option.isNone_none] at hq
    go_enter Tryz.func52, Tryz.ntmps52
    go_wp2
    go_ret
    exact ⟨_, rfl, Gw2.nil_ _ _, Below.refl _ _⟩
  | some ad =>
    clear hc0 hbt
    have hq := fun W n c => Lib.run_eql_slice_nil (P := Tryz.prog) W 22 39 (some ad) n c 0 0 Tryz.underlying22
    simp only [Option.isNone_some] at hq
    go_enter Tryz.func52, Tryz.ntmps52
    go_wp2_with (at_builtin; refine wpList_gapp2 eSp _ rfl _ _ _ rfl w.heap.size sliSp infSp _ [] rfl (Gw2.empty_ _ _ (Nat.le_refl _)) lo w.heap.size _ l rfl (hv0.alloc (Nat.le_refl _) _) (by simp; omega) (by simp) ?_; intro v2 w2 o2 g2 _)
    go_ret
    exact ⟨v2, rfl, by simpa using o2, ((Below.refl _ _).alloc (Nat.le_refl _) _).grown g2 (by simp) (fun k h => by injection h with h; subst h; exact Nat.le_refl _)⟩

set_option maxHeartbeats 400000 in
theorem nan64_any (x : Int) (w : World) :
    Calls Tryz.prog 93 #[.int .u64 x] w fun e w' => e = .returned (.bool false) ∧ w' = w := by
  go_enter Tryz.func93, Tryz.ntmps93
  go_wp2
  go_ret
  exact ⟨by simp, rfl⟩
set_option maxHeartbeats 1000000 in
theorem compare64_any (x y : Int) (w : World) :
    Calls Tryz.prog 55 #[.int .u64 x, .int .u64 y] w fun e w' => e = .returned (.int .i64 (cmpv x y)) ∧ w' = w := by
  rcases Int.lt_trichotomy x y with h | h | h
  · have e : cmpv x y = -1 := by unfold cmpv; rw [if_pos h]
    rw [e]
    go_enter Tryz.func55, Tryz.ntmps55
    go_wp2_with (go_at_call 93; refine (nan64_any _ _).mono ?_; rintro e w1 ⟨rfl, hz⟩; have hz := hz.symm; subst hz)
    go_ret
    exact ⟨rfl, rfl⟩
  · have e : cmpv x y = 0 := by unfold cmpv; rw [if_neg (by omega), if_neg (by omega)]
    rw [e]
    subst h
    go_enter Tryz.func55, Tryz.ntmps55
    go_wp2_with (go_at_call 93; refine (nan64_any _ _).mono ?_; rintro e w1 ⟨rfl, hz⟩; have hz := hz.symm; subst hz)
    go_ret
    exact ⟨rfl, rfl⟩
  · have e : cmpv x y = 1 := by unfold cmpv; rw [if_neg (by omega), if_pos h]
    rw [e]
    have h2 : x > y := h
    have h3 : ¬ x < y := by omega
    go_enter Tryz.func55, Tryz.ntmps55
    go_wp2_with (go_at_call 93; refine (nan64_any _ _).mono ?_; rintro e w1 ⟨rfl, hz⟩; have hz := hz.symm; subst hz)
    go_ret
    exact ⟨rfl, rfl⟩

/-- A span's two cells; how two spans stand. -/
def encS (s : Sn) : List Value := [.int .u64 s.1.toNat, .int .u64 s.2.toNat]
def cfS (s t : Sn) : Int := cmpv s.1.toNat t.1.toNat
theorem ltS (s t : Sn) : Go.Proofs.ltOf cfS s t = decide (s.1.toNat < t.1.toNat) := by
  unfold Go.Proofs.ltOf cfS cmpv
  by_cases h1 : s.1.toNat < t.1.toNat
  · rw [if_pos (by omega)]; simp [h1]
  · rw [if_neg (by omega)]
    by_cases h2 : t.1.toNat < s.1.toNat
    · rw [if_pos (by omega)]; simp [h1]
    · rw [if_neg (by omega)]; simp [h1]
theorem swoS : Go.Sort.SWO (Go.Proofs.ltOf cfS) where
  irrefl x := by rw [ltS]; simp
  trans x y z h1 h2 := by rw [ltS] at *; simp at *; omega
  ntrans x y z h1 h2 := by rw [ltS] at *; simp at *; omega
set_option maxHeartbeats 1000000 in
theorem cmpSp_c (x y : Sn) (W : World) : Calls Tryz.prog 54 #[.agg #[.int .u64 x.1.toNat, .int .u64 x.2.toNat], .agg #[.int .u64 y.1.toNat, .int .u64 y.2.toNat]] W fun e w' => e = .returned (.int .i64 (cfS x y)) ∧ ∃ q os', w' = Go.Sort.grow (W.drewN q) os' := by
  have hcon := fun W' => compare64_any x.1.toNat y.1.toNat W'
  have hc : cmpv (x.1.toNat : Int) y.1.toNat = cfS x y := rfl
  rw [hc] at hcon
  generalize cfS x y = r at hcon ⊢
  clear hc
  obtain ⟨a, ha⟩ : ∃ a : Nat, a = x.1.toNat := ⟨_, rfl⟩
  obtain ⟨b, hb⟩ : ∃ b : Nat, b = x.2.toNat := ⟨_, rfl⟩
  obtain ⟨c, hc⟩ : ∃ c : Nat, c = y.1.toNat := ⟨_, rfl⟩
  obtain ⟨d, hd⟩ : ∃ d : Nat, d = y.2.toNat := ⟨_, rfl⟩
  rw [← ha, ← hc] at hcon
  rw [← ha, ← hb, ← hc, ← hd]
  clear ha hb hc hd
  go_enter Tryz.func54, Tryz.ntmps54
  go_wp2_with (go_at_call 55; refine (hcon _).mono ?_; rintro e w' ⟨rfl, rfl⟩)
  go_ret
  exact ⟨rfl, 0, _, by rw [Go.Sort.alloc_eq_grow, Go.Sort.alloc_eq_grow, Go.Sort.grow_grow]; rfl⟩
theorem heap_sortWorld (enc : Sn → List Value) (k : Nat) (w : World) (blk off n : Nat) (d : Array Sn) (os : Array Obj) (j : Nat) (hj : j < w.heap.size) (hne : j ≠ blk) : (Go.Proofs.sortWorldK enc k w blk off n d os).heap[j]? = w.heap[j]? := by
  unfold Go.Proofs.sortWorldK Go.Sort.putRowK Go.Sort.putRow Go.Sort.mapBlock Go.Sort.grow Go.Sort.ahead
  show (w.heap.modify blk _ ++ os)[j]? = _
  rw [Array.getElem?_append_left (by simpa using hj), Array.getElem?_modify, if_neg (fun e => hne e.symm)]
set_option maxHeartbeats 1000000 in
theorem sortSp_c (v : Value) (l : List Sn) (base : Nat) (w : World) (hv : Gw2 eSp w base v l) (hb : l.length ≤ 100000000) (hbase : base ≤ w.heap.size) :
    Calls Tryz.prog 53 #[v, .func (.func 54) #[] #[]] w fun e w' => e = .returned (.tuple #[]) ∧ ∃ l', l'.Perm l ∧ (l'.Pairwise fun s t => s.1.toNat ≤ t.1.toNat) ∧ Gs2 eSp w' base w'.heap.size v l' ∧ Below base w w' := by
  by_cases hl : l = []
  · subst hl
    obtain ⟨A, c, rfl, h0, h1, h2, -⟩ := hv.sl
    refine (Go.Proofs.AnyF.slices_SortFunc_none { sortSp with } A c _ w).mono ?_
    rintro e w' ⟨rfl, rfl⟩
    exact ⟨rfl, [], List.Perm.refl _, .nil, ⟨A, c, rfl, h0, h1, h2, fun h => absurd rfl h⟩, Below.refl _ _⟩
  · obtain ⟨b, c, rfl, hlc, hcm, hb1, hb2, hcell, hfz⟩ := hv.form hl
    have eg : ∀ args w, (callFunc 54 args).run Tryz.prog w = .ok (.enter 54 args) w := enters_of Tryz.func54 (by kernel_rfl) rfl
    have hH : Go.Sort.HoldsK encS 2 w b 0 l.toArray := by
      intro j hj
      rw [Go.Sort.size_flatK, List.size_toArray] at hj
      rw [Go.Sort.get_flatK _ _ _ _ (by rw [List.size_toArray]; exact hj)]
      have hj2 : j / 2 < l.length := by omega
      have hg : l.toArray[j / 2]! = l[j / 2] := by rw [getElem!_pos l.toArray (j / 2) (by rw [List.size_toArray]; exact hj2)]; simp
      have hc := hcell (j / 2) _ (List.getElem?_eq_getElem hj2)
      rw [hg, Nat.zero_add]
      refine ⟨?_, hfz j⟩
      rcases Nat.mod_two_eq_zero_or_one j with hm | hm
      · rw [hm]
        have e : j = 2 * (j / 2) := by omega
        have := hc.1
        rw [← e] at this
        exact this
      · rw [hm]
        have e : j = 2 * (j / 2) + 1 := by omega
        have := hc.2
        rw [← e] at this
        exact this
    have hcon := Go.Proofs.AnyQ.slices_SortFunc sortSp 2 Tryz.isAgg39 Tryz.sizeOf39 encS (fun _ => rfl) (fun x v hv => by simp [encS] at hv; rcases hv with rfl | rfl <;> rfl) cfS swoS 54 #[] b 0 c l.toArray w eg (fun _ _ _ _ x y => cmpSp_c x y _) hH hb2 (by rw [List.size_toArray]; omega)
    rw [List.size_toArray] at hcon
    refine hcon.mono ?_
    rintro e w' ⟨rfl, d', n, os, hp, hs, rfl⟩
    have hsz : d'.size = l.length := by rw [hp.1, List.size_toArray]
    have hH' := Go.Proofs.holdsK_sortWorldK_c encS 2 w b 0 l.toArray d' n os hH hb2 hp.1
    have hws : w.heap.size ≤ (Go.Proofs.sortWorldK encS 2 w b 0 n d' os).heap.size := by
      unfold Go.Proofs.sortWorldK Go.Sort.putRowK Go.Sort.putRow Go.Sort.mapBlock Go.Sort.grow Go.Sort.ahead
      simp
    refine ⟨rfl, d'.toList, ?_, ?_, ?_, ⟨rfl, rfl, rfl, hws, fun k hk => heap_sortWorld encS 2 w b 0 n d' os k (by omega) (by omega)⟩⟩
    · have h3 := hp.2.2
      rw [show l.length = d'.size from hsz.symm] at h3
      simp at h3
      rw [hsz, List.take_length] at h3
      exact h3
    · rw [List.pairwise_iff_getElem]
      intro i j hi hj hij
      have := hs i j (Nat.zero_le _) hij (by rw [← hsz]; simpa using hj)
      rw [ltS, getElem!_pos d' j (by simpa using hj), getElem!_pos d' i (by simpa using hi), decide_eq_false_iff_not] at this
      simp only [Array.getElem_toList]
      omega
    · refine ⟨some ⟨b, 0, none⟩, c, congrArg (fun n => Value.slice (some ⟨b, 0, none⟩) n c) (by simp [hsz]), fun e => (by cases e), by rw [Array.length_toList, hsz]; exact hlc, hcm, fun _ => ⟨b, 0, rfl, hb1, Nat.lt_of_lt_of_le hb2 hws, fun j x hx => ?_⟩⟩
      have hjl := (List.getElem?_eq_some_iff.1 hx).1
      have hjd : j < d'.size := by simpa using hjl
      have hg : d'[j]! = x := by
        rw [getElem!_pos d' j hjd]
        have := (List.getElem?_eq_some_iff.1 hx).2
        simpa using this
      have c0 := (hH' (2 * j) (by rw [Go.Sort.size_flatK]; omega)).1
      have c1 := (hH' (2 * j + 1) (by rw [Go.Sort.size_flatK]; omega)).1
      rw [Go.Sort.get_flatK _ _ _ _ (by omega), show 2 * j / 2 = j by omega, show 2 * j % 2 = 0 by omega, hg] at c0
      rw [Go.Sort.get_flatK _ _ _ _ (by omega), show (2 * j + 1) / 2 = j by omega, show (2 * j + 1) % 2 = 1 by omega, hg] at c1
      exact ⟨c0, c1⟩
end Go.Proofs.YtcmifbjeabkihabGreatDoor
/- Walks: withSpan. -/
namespace Go.Proofs.YtcmifbjeabkihabGreatDoor
open Go.RowKit
set_option linter.unusedVariables false

/-- The last span's end, where it lies. -/
theorem ended {w : World} {base b c m : Nat} {L : List Sn} {r : Sn} (h : Gw2 eSp w base (.slice (some ⟨b, 0, none⟩) (m + 1) c) (L ++ [r])) (hm : L.length = m) (a : Nat) (ha : a = m * 2 + 1) (z : UInt64) :
    Gw2 eSp (w.setCell ⟨b, a, none⟩ (.int .u64 (z.toNat : Int))) base (.slice (some ⟨b, 0, none⟩) (m + 1) c) (L ++ [(r.1, z)]) := by
  subst ha
  have h1 := h.stored2 m r (r.1, z) (by rw [← hm]; simp) rfl
  have e : (L ++ [r]).set m (r.1, z) = L ++ [(r.1, z)] := by
    rw [← hm]; simp
  rw [e, Nat.mul_comm 2 m] at h1
  exact h1
theorem run_max2 (w : World) (ts : Array TypeId) (t : TypeId) (x y n : Int) (h : n = max x y) : (Builtin.max_ ts t #[.int .u64 x, .int .u64 y]).run Tryz.prog w = .ok (.int .u64 n) w := by
  subst h
  have e : ∀ a b : Int, (if a < b then b else a) = max a b := fun a b => by split <;> omega
  simp [Builtin.max_, Builtin.max2, e]
/-- What a row of spans has become: in its own block, or a new one. -/
def Sp3 (w : World) (v : Value) (w' : World) (v' : Value) : Prop := w.grownBy w' v.ownBlock ∧ (v'.ownBlock = v.ownBlock ∨ ∃ g, v'.ownBlock = some g ∧ w.heap.size ≤ g)
set_option maxHeartbeats 4000000 in
theorem withSpan_nil (s : Sn) (base : Nat) (w : World) (hbase : base ≤ w.heap.size) :
    Calls Tryz.prog 48 #[.slice none 0 0, .agg #[.int .u64 s.1.toNat, .int .u64 s.2.toNat]] w fun e w' => ∃ v', e = .returned v' ∧ Gw2 eSp w' base v' [s] ∧ Sp3 w (.slice none 0 0) w' v' ∧ Below base w w' := by
  obtain ⟨p, hp⟩ : ∃ p : Nat, p = s.1.toNat := ⟨_, rfl⟩
  obtain ⟨q, hq⟩ : ∃ q : Nat, q = s.2.toNat := ⟨_, rfl⟩
  rw [← hp, ← hq]
  have HP := Lib.hid hp
  have HQ := Lib.hid hq
  have bz := bx w (.cells #[.int .u64 (p : Int), .int .u64 (q : Int)] 39)
  have rz := Row.new w 39 #[.int .u64 (p : Int), .int .u64 (q : Int)]
  clear hp hq
  go_enter Tryz.func48, Tryz.ntmps48
  go_wp2_with fail
  generalize w.alloc (.cells #[.int .u64 (p : Int), .int .u64 (q : Int)] 39) = w1 at *
  have B1 := Lib.hid bz
  have HSB : Hid (base ≤ w1.heap.size) := Lib.hid (Nat.le_trans hbase bz.size)
  have k0 : w1.cell? ⟨w.heap.size, 0, none⟩ = some (.int .u64 (p : Int)) := rz.cell 0
  have k1 : w1.cell? ⟨w.heap.size, 1, none⟩ = some (.int .u64 (q : Int)) := rz.cell 1
  clear rz bz
  go_quiet (fail)
  go_wp2_with (at_builtin; refine wpList_gapp2_one (P := Tryz.prog) eSp _ rfl _ _ _ rfl base sliSp infSp _ [] rfl ?_ _ _ s ?_ ?_ ?_ ?_ ?_ ?_; (exact Gw2.nil_ _ _); (rw [HP.out]; rfl); (rw [HQ.out]; rfl); (first | rfl | simp); (simp); (exact HSB.out); intro v2 w2 o2 g2 g3; have O2 := Lib.hid o2; have SP : Hid (Sp3 w (.slice none 0 0) w2 v2) := Lib.hid ⟨grown_start (below_drewN B1.out nq) g2, g3.elim (fun e => .inl e) (fun e => .inr ⟨_, e, Nat.le_trans B1.out.size (Nat.le_succ _)⟩)⟩; have G2 : Hid (Below base w w2) := Lib.hid ((B1.out.mono hbase).trans ⟨g2.os, g2.tape, g2.output, g2.size, fun j hj => g2.block j (Nat.lt_of_lt_of_le hj HSB.out) (fun e => by cases e)⟩); clear o2 g2 g3)
  go_ret
  exact ⟨_, rfl, O2.out, SP.out, G2.out⟩

set_option maxHeartbeats 4000000 in
theorem withSpan_out (L : List Sn) (r s : Sn) (v : Value) (base : Nat) (w : World) (hv : Gw2 eSp w base v (L ++ [r])) (hl : (L ++ [r]).length ≤ 100000000) (hbase : base ≤ w.heap.size) (hs : ¬ s.1.toNat ≤ r.2.toNat) :
    Calls Tryz.prog 48 #[v, .agg #[.int .u64 s.1.toNat, .int .u64 s.2.toNat]] w fun e w' => ∃ v', e = .returned v' ∧ Gw2 eSp w' base v' (L ++ [r] ++ [s]) ∧ Sp3 w v w' v' ∧ Below base w w' := by
  obtain ⟨p, hp⟩ : ∃ p : Nat, p = s.1.toNat := ⟨_, rfl⟩
  obtain ⟨q, hq⟩ : ∃ q : Nat, q = s.2.toNat := ⟨_, rfl⟩
  obtain ⟨t, ht⟩ : ∃ t : Nat, t = r.2.toNat := ⟨_, rfl⟩
  rw [← hp, ← ht] at hs
  rw [← hp, ← hq]
  have HP := Lib.hid hp
  have HQ := Lib.hid hq
  have HT := Lib.hid ht
  obtain ⟨m, hm⟩ : ∃ m, L.length = m := ⟨_, rfl⟩
  have hlen : (L ++ [r]).length = m + 1 := by rw [List.length_append, hm]; rfl
  obtain ⟨b, c, rfl, hlc, hcm, hb1, hb2, hcell, hfz⟩ := hv.form (by simp)
  rw [hlen] at hv hlc hl ⊢
  have c1 := (hcell m r (by rw [← hm]; simp)).2
  rw [Nat.mul_comm 2 m] at c1
  have c1' : w.cell? ⟨b, m * 2 + 1, none⟩ = some (.int .u64 (t : Int)) := by rw [c1, ht]; rfl
  have w0 : IntKind.i64.wrap (((m + 1 : Nat) : Int) - 1) = (m : Int) := by simp [IntKind.wrap, IntKind.bits, IntKind.signed]; omega
  have w9 : IntKind.i64.wrap (m : Int) = m := by simp [IntKind.wrap, IntKind.bits, IntKind.signed]; omega
  have hm2 : (m : Int) < (m : Int) + 1 := by omega
  have hm0 : ((m + 1 : Nat) : Int) > 0 := by omega
  have hm1 : ((m + 1 : Nat) : Int) - 1 = m := by omega
  have HV := Lib.hid hv
  have HM := Lib.hid hm
  have HL := Lib.hid hl
  have bz := bx w (.cells #[.int .u64 (p : Int), .int .u64 (q : Int)] 39)
  have rz := Row.new w 39 #[.int .u64 (p : Int), .int .u64 (q : Int)]
  have HB2 := Lib.hid hb2
  have HBB := Lib.hid hb1
  clear hp hq ht hcell hfz c1 hv hlen hm hlc hcm hl
  have hs1 : decide ((p : Int) ≤ t) = false := decide_eq_false (by omega)
  have hs2 : decide (p ≤ t) = false := decide_eq_false hs
  go_enter Tryz.func48, Tryz.ntmps48
  go_wp2_with fail
  generalize w.alloc (.cells #[.int .u64 (p : Int), .int .u64 (q : Int)] 39) = w1 at *
  have B1 := Lib.hid bz
  have HSB : Hid (base ≤ w1.heap.size) := Lib.hid (Nat.le_trans hbase bz.size)
  have k0 : w1.cell? ⟨w.heap.size, 0, none⟩ = some (.int .u64 (p : Int)) := rz.cell 0
  have k1 : w1.cell? ⟨w.heap.size, 1, none⟩ = some (.int .u64 (q : Int)) := rz.cell 1
  have k2 : w1.cell? ⟨b, m * 2 + 1, none⟩ = some (.int .u64 (t : Int)) := (bz.cell (p := ⟨b, m * 2 + 1, none⟩) hb2).trans c1'
  have HV1 := Lib.hid (HV.out.below bz (Nat.le_refl _))
  clear rz bz c1'
  go_quiet (fail)
  have HV2 := Lib.hid (HV1.out.drewN nq)
  have HSB2 : Hid (base ≤ (w1.drewN nq).heap.size) := HSB
  have B2 : Hid (Below base w (w1.drewN nq)) := Lib.hid (below_drewN (B1.out.mono hbase) nq)
  have B3W : Hid (Below w.heap.size w (w1.drewN nq)) := Lib.hid (below_drewN B1.out nq)
  have k0 : (w1.drewN nq).cell? ⟨w.heap.size, 0, none⟩ = some (.int .u64 (p : Int)) := k0
  have k1 : (w1.drewN nq).cell? ⟨w.heap.size, 1, none⟩ = some (.int .u64 (q : Int)) := k1
  generalize w1.drewN nq = w3 at *
  clear k2 HV1 HSB
  go_wp2_with (at_builtin; refine wpList_gapp2_one (P := Tryz.prog) eSp _ rfl _ _ _ rfl base sliSp infSp _ (L ++ [r]) rfl ?_ _ _ s ?_ ?_ ?_ ?_ ?_ ?_; (exact HV2.out); (rw [HP.out]; rfl); (rw [HQ.out]; rfl); (first | rfl | simp); (have := HM.out; have := HL.out; simp; omega); (exact HSB2.out); intro v2 w2 o2 g2 g3; have O2 := Lib.hid o2; have SP : Hid (Sp3 w (.slice (some ⟨b, 0, none⟩) (m + 1) c) w2 v2) := Lib.hid ⟨grown_start B3W.out g2, g3.elim (fun e => .inl e) (fun e => .inr ⟨_, e, Nat.le_trans B3W.out.size (by simp)⟩)⟩; have G2 : Hid (Below base w w2) := Lib.hid (B2.out.trans ⟨g2.os, g2.tape, g2.output, g2.size, fun j hj => g2.block j (Nat.lt_of_lt_of_le hj HSB2.out) (fun e => by have := (HV2.out.lt j e.symm).1; omega)⟩); clear o2 g2 g3)
  go_ret
  exact ⟨_, rfl, O2.out, SP.out, G2.out⟩

set_option maxHeartbeats 4000000 in
theorem withSpan_in (L : List Sn) (r s : Sn) (v : Value) (base : Nat) (w : World) (hv : Gw2 eSp w base v (L ++ [r])) (hl : (L ++ [r]).length ≤ 100000000) (hbase : base ≤ w.heap.size) (hs : s.1.toNat ≤ r.2.toNat) :
    Calls Tryz.prog 48 #[v, .agg #[.int .u64 s.1.toNat, .int .u64 s.2.toNat]] w fun e w' => ∃ v', e = .returned v' ∧ Gw2 eSp w' base v' (L ++ [(r.1, if r.2.toNat < s.2.toNat then s.2 else r.2)]) ∧ Sp3 w v w' v' ∧ Below base w w' := by
  obtain ⟨z, hz⟩ : ∃ z : UInt64, z = (if r.2.toNat < s.2.toNat then s.2 else r.2) := ⟨_, rfl⟩
  rw [← hz]
  have hzm : (z.toNat : Int) = max (r.2.toNat : Int) (s.2.toNat : Int) := by rw [hz]; split <;> omega
  clear hz
  obtain ⟨y, hy⟩ : ∃ y : Nat, y = z.toNat := ⟨_, rfl⟩
  rw [← hy] at hzm
  have HY := Lib.hid hy
  clear hy
  obtain ⟨p, hp⟩ : ∃ p : Nat, p = s.1.toNat := ⟨_, rfl⟩
  obtain ⟨q, hq⟩ : ∃ q : Nat, q = s.2.toNat := ⟨_, rfl⟩
  obtain ⟨t, ht⟩ : ∃ t : Nat, t = r.2.toNat := ⟨_, rfl⟩
  rw [← hp, ← ht] at hs
  rw [← ht, ← hq] at hzm
  rw [← hp, ← hq]
  have HP := Lib.hid hp
  have HQ := Lib.hid hq
  have HT := Lib.hid ht
  obtain ⟨m, hm⟩ : ∃ m, L.length = m := ⟨_, rfl⟩
  have hlen : (L ++ [r]).length = m + 1 := by rw [List.length_append, hm]; rfl
  obtain ⟨b, c, rfl, hlc, hcm, hb1, hb2, hcell, hfz⟩ := hv.form (by simp)
  rw [hlen] at hv hlc hl ⊢
  have c1 := (hcell m r (by rw [← hm]; simp)).2
  rw [Nat.mul_comm 2 m] at c1
  have c1' : w.cell? ⟨b, m * 2 + 1, none⟩ = some (.int .u64 (t : Int)) := by rw [c1, ht]; rfl
  have w0 : IntKind.i64.wrap (((m + 1 : Nat) : Int) - 1) = (m : Int) := by simp [IntKind.wrap, IntKind.bits, IntKind.signed]; omega
  have w9 : IntKind.i64.wrap (m : Int) = m := by simp [IntKind.wrap, IntKind.bits, IntKind.signed]; omega
  have hm2 : (m : Int) < (m : Int) + 1 := by omega
  have hm0 : ((m + 1 : Nat) : Int) > 0 := by omega
  have hm1 : ((m + 1 : Nat) : Int) - 1 = m := by omega
  have HV := Lib.hid hv
  have HM := Lib.hid hm
  have HL := Lib.hid hl
  have bz := bx w (.cells #[.int .u64 (p : Int), .int .u64 (q : Int)] 39)
  have rz := Row.new w 39 #[.int .u64 (p : Int), .int .u64 (q : Int)]
  have HB2 := Lib.hid hb2
  have HBB := Lib.hid hb1
  clear hp hq ht hcell hfz c1 hv hlen hm hlc hcm hl
  have hs1 : (p : Int) ≤ t := by omega
  have hmax := fun W => run_max2 W #[37, 37] 37 (t : Int) (q : Int) (y : Int) hzm
  clear hzm
  go_enter Tryz.func48, Tryz.ntmps48
  go_wp2_with fail
  generalize w.alloc (.cells #[.int .u64 (p : Int), .int .u64 (q : Int)] 39) = w1 at *
  have B1 := Lib.hid bz
  have HSB : Hid (base ≤ w1.heap.size) := Lib.hid (Nat.le_trans hbase bz.size)
  have k0 : w1.cell? ⟨w.heap.size, 0, none⟩ = some (.int .u64 (p : Int)) := rz.cell 0
  have k1 : w1.cell? ⟨w.heap.size, 1, none⟩ = some (.int .u64 (q : Int)) := rz.cell 1
  have k2 : w1.cell? ⟨b, m * 2 + 1, none⟩ = some (.int .u64 (t : Int)) := (bz.cell (p := ⟨b, m * 2 + 1, none⟩) hb2).trans c1'
  have HV1 := Lib.hid (HV.out.below bz (Nat.le_refl _))
  have RZ := Lib.hid rz
  clear rz bz c1'
  go_quiet (fail)
  have HV2 := Lib.hid (HV1.out.drewN nq)
  have RZ2 : Hid (Row (w1.drewN nq) w.heap.size 39 #[.int .u64 (p : Int), .int .u64 (q : Int)]) := RZ
  have B2 : Hid (Below base w (w1.drewN nq)) := Lib.hid (below_drewN (B1.out.mono hbase) nq)
  have B3W : Hid (Below w.heap.size w (w1.drewN nq)) := Lib.hid (below_drewN B1.out nq)
  have k2 : (w1.drewN nq).cell? ⟨b, m * 2 + 1, none⟩ = some (.int .u64 (t : Int)) := k2
  generalize w1.drewN nq = w3 at *
  clear HV1 HSB RZ k0 k1
  go_wp2_with fail
  have hSc : Row w3.drew w.heap.size 39 #[.int .u64 (p : Int), .int .u64 (q : Int)] := RZ2.out
  have k2 : w3.drew.cell? ⟨b, m * 2 + 1, none⟩ = some (.int .u64 (t : Int)) := k2
  have f2 : w3.drew.frozen? ⟨b, m * 2 + 1, none⟩ = false := by
    obtain ⟨_, _, _, _, _, _, _, _, hf⟩ := HV2.out.form (by simp)
    rename_i e _ _ _ _ _
    injection e with e1 e2 e3
    injection e1 with e1
    injection e1 with e1
    subst e1
    exact hf _
  have HV3 : Hid (Gw2 eSp w3.drew base (.slice (some ⟨b, 0, none⟩) (m + 1) c) (L ++ [r])) := Lib.hid (HV2.out.drewN 1)
  have B3 : Hid (Below base w w3.drew) := Lib.hid (below_drewN B2.out 1)
  have NEB : Hid (b ≠ w.heap.size) := Lib.hid (by have := HB2.out; omega)
  refine wp_region_held_drew (S := fun W => Row W w.heap.size 39 #[.int .u64 (p : Int), .int .u64 (q : Int)]) (by kernel_rfl) hSc (fun _ => ?_)
  refine held_take 0 ?_ rfl (by kernel_rfl) (by kernel_rfl) (by kernel_rfl) (fun _ _ _ h => h) (by rfl) ?_ hSc ?_
  rotate_left
  · (intro W hSW; go_simp; try rfl)
  try simp only [Act.put, List.setIfInBounds_toArray, List.set_cons_zero, List.set_cons_succ]
  refine held_take 1 ?_ rfl (by kernel_rfl) (by kernel_rfl) (by kernel_rfl) (fun _ _ _ h => h) (by rfl) ?_ hSc ?_
  rotate_left
  · (intro W hSW; go_simp; try rfl)
  try simp only [Act.put, List.setIfInBounds_toArray, List.set_cons_zero, List.set_cons_succ]
  refine held_take 2 ?_ rfl (by kernel_rfl) (by kernel_rfl) (by kernel_rfl) (fun _ _ _ h => h) (by rfl) ?_ hSc ?_
  rotate_left
  · (intro W hSW; go_simp; try rfl)
  try simp only [Act.put, List.setIfInBounds_toArray, List.set_cons_zero, List.set_cons_succ]
  refine held_take 3 ?_ rfl (by kernel_rfl) (by kernel_rfl) (by kernel_rfl) (fun _ _ _ h => h) (by rfl) ?_ hSc ?_
  rotate_left
  · (intro W hSW; go_simp; try rfl)
  try simp only [Act.put, List.setIfInBounds_toArray, List.set_cons_zero, List.set_cons_succ]
  refine held_take 4 ?_ rfl (by kernel_rfl) (by kernel_rfl) (by kernel_rfl) (fun _ _ _ h => h) (by rfl) ?_ hSc ?_
  rotate_left
  · (intro W hSW; go_simp; try rfl)
  try simp only [Act.put, List.setIfInBounds_toArray, List.set_cons_zero, List.set_cons_succ]
  refine held_take 5 ?_ rfl (by kernel_rfl) (by kernel_rfl) (by kernel_rfl) (fun _ _ _ h => h) (by rfl) ?_ hSc ?_
  rotate_left
  · (intro W hSW; go_simp; try rfl)
  try simp only [Act.put, List.setIfInBounds_toArray, List.set_cons_zero, List.set_cons_succ]
  refine held_take 6 ?_ rfl (by kernel_rfl) (by kernel_rfl) (by kernel_rfl) (fun _ _ _ h => h) (by rfl) ?_ hSc ?_
  rotate_left
  · (intro W hSW; go_simp; try rfl)
  try simp only [Act.put, List.setIfInBounds_toArray, List.set_cons_zero, List.set_cons_succ]
  refine held_take 7 ?_ rfl (by kernel_rfl) (by kernel_rfl) (by kernel_rfl) (fun _ _ _ h => h) (by rfl) ?_ hSc ?_
  rotate_left
  · (intro W hSW; go_simp; try rfl)
  try simp only [Act.put, List.setIfInBounds_toArray, List.set_cons_zero, List.set_cons_succ]
  refine held_take 9 ?_ rfl (by kernel_rfl) (by kernel_rfl) (by kernel_rfl) (fun _ _ _ h => h) (by rfl) ?_ hSc ?_
  rotate_left
  · (intro W hSW; go_simp; try rfl)
  try simp only [Act.put, List.setIfInBounds_toArray, List.set_cons_zero, List.set_cons_succ]
  refine held_take 10 ?_ rfl (by kernel_rfl) (by kernel_rfl) (by kernel_rfl) (fun _ _ _ h => h) (by rfl) ?_ hSc ?_
  rotate_left
  · (intro W hSW; have k0 := hSW.cell 0; have k1 := hSW.cell 1; go_simp; try rfl)
  try simp only [Act.put, List.setIfInBounds_toArray, List.set_cons_zero, List.set_cons_succ]
  refine held_next 8 rfl (by kernel_rfl) (by rfl) ?_
  go_simp
  refine ⟨fun W => Row W w.heap.size 39 #[.int .u64 (p : Int), .int .u64 (q : Int)], fun W hW => hW, hSc, ?_⟩
  try simp only [Act.put, List.setIfInBounds_toArray, List.set_cons_zero, List.set_cons_succ]
  refine held_take 11 ?_ rfl (by kernel_rfl) (by kernel_rfl) (by kernel_rfl) (fun _ _ _ h => h) (by rfl) ?_ hSc ?_
  rotate_left
  · (intro W hSW; go_simp; try rfl)
  try simp only [Act.put, List.setIfInBounds_toArray, List.set_cons_zero, List.set_cons_succ]
  refine held_take 12 ?_ rfl (by kernel_rfl) (by kernel_rfl) (by kernel_rfl) (fun _ _ _ h => h) (by rfl) ?_ hSc ?_
  rotate_left
  · (intro W hSW; go_simp; try rfl)
  try simp only [Act.put, List.setIfInBounds_toArray, List.set_cons_zero, List.set_cons_succ]
  refine held_take 13 ?_ rfl (by kernel_rfl) (by kernel_rfl) (by kernel_rfl) (fun _ _ _ h => h) (by rfl) ?_ hSc ?_
  rotate_left
  · (intro W hSW; go_simp; try rfl)
  try simp only [Act.put, List.setIfInBounds_toArray, List.set_cons_zero, List.set_cons_succ]
  have EN := ended HV3.out HM.out (m * 2 + 1) rfl z
  rw [← HY.out] at EN
  have G4 := grown_set w3.drew b (m * 2 + 1) (.int .u64 (y : Int))
  refine held_next 14 rfl (by kernel_rfl) (by rfl) ?_
  go_simp
  have hS3 : Row (w3.drew.setCell ⟨b, m * 2 + 1, none⟩ (.int .u64 (y : Int))) w.heap.size 39 #[.int .u64 (p : Int), .int .u64 (q : Int)] := hSc.grown G4 (by intro e; injection e with e; exact NEB.out e)
  have EN : Hid (Gw2 eSp (w3.drew.setCell ⟨b, m * 2 + 1, none⟩ (.int .u64 (y : Int))) base (.slice (some ⟨b, 0, none⟩) (m + 1) c) (L ++ [(r.1, z)])) := Lib.hid EN
  have BE : Hid (Below base w (w3.drew.setCell ⟨b, m * 2 + 1, none⟩ (.int .u64 (y : Int)))) := Lib.hid (B3.out.trans ⟨G4.os, G4.tape, G4.output, G4.size, fun j hj => G4.block j (Nat.lt_of_lt_of_le hj (Nat.le_trans hbase B3.out.size)) (fun e => by injection e with e; have := HBB.out; omega)⟩)
  have SP : Hid (Sp3 w (.slice (some ⟨b, 0, none⟩) (m + 1) c) (w3.drew.setCell ⟨b, m * 2 + 1, none⟩ (.int .u64 (y : Int))) (.slice (some ⟨b, 0, none⟩) (m + 1) c)) := Lib.hid ⟨grown_start (below_drewN B3W.out 1) G4, .inl rfl⟩
  clear G4
  refine ⟨fun W => Row W w.heap.size 39 #[.int .u64 (p : Int), .int .u64 (q : Int)], fun W hW => hW, by first | exact hS3 | (simpa using hS3), ?_⟩
  refine wpAnyH_done (by kernel_rfl) ?_ _
  clear hS3 hSc
  go_wp2
  go_ret
  exact ⟨_, rfl, EN.out, SP.out, BE.out⟩

theorem withSpan_c (l : List Sn) (s : Sn) (v : Value) (base : Nat) (w : World) (hv : Gw2 eSp w base v l) (hn : l = [] → v = .slice none 0 0) (hl : l.length ≤ 100000000) (hbase : base ≤ w.heap.size) :
    Calls Tryz.prog 48 #[v, .agg #[.int .u64 s.1.toNat, .int .u64 s.2.toNat]] w fun e w' => ∃ v', e = .returned v' ∧ Gw2 eSp w' base v' (wsp l s) ∧ Sp3 w v w' v' ∧ Below base w w' := by
  rcases snoc_cases l with rfl | ⟨a, r, rfl⟩
  · obtain rfl := hn rfl
    exact withSpan_nil s base w hbase
  · by_cases h : s.1.toNat ≤ r.2.toNat
    · rw [wsp_in _ _ _ h]; exact withSpan_in a r s v base w hv hl hbase h
    · rw [wsp_out _ _ _ h]; exact withSpan_out a r s v base w hv hl hbase h
end Go.Proofs.YtcmifbjeabkihabGreatDoor
/- Walks: the halves of a number; the search of a key among entries; find, Has of a set. -/
namespace Go.Proofs.YtcmifbjeabkihabGreatDoor
open Go.RowKit
set_option linter.unusedVariables false

theorem high_c (x : Nat) (w : World) (hx : x < 4294967296) :
    Calls Tryz.prog 34 #[.int .u32 x] w fun e w' => e = .returned (.int .u16 (x / 65536 : Nat)) ∧ w' = w := by
  have hw : IntKind.u16.wrap ((x : Int) / 65536) = ((x / 65536 : Nat) : Int) := by simp [IntKind.wrap, IntKind.bits, IntKind.signed]; omega
  have hw1 : IntKind.u32.wrap ((x : Int) / 65536) = (x : Int) / 65536 := by simp [IntKind.wrap, IntKind.bits, IntKind.signed]; omega
  go_enter Tryz.func34, Tryz.ntmps34
  go_wp2
  go_ret
  exact ⟨by first | rfl | rw [hw], rfl⟩
theorem low_c (x : Nat) (w : World) (hx : x < 4294967296) :
    Calls Tryz.prog 36 #[.int .u32 x] w fun e w' => e = .returned (.int .u16 (x % 65536 : Nat)) ∧ w' = w := by
  have hw : IntKind.u16.wrap ((x : Int) % 65536) = ((x % 65536 : Nat) : Int) := by rw [IntKind.wrap_u16]; omega
  have hw1 : IntKind.u32.wrap ((x : Int) % 65536) = (x : Int) % 65536 := by simp [IntKind.wrap, IntKind.bits, IntKind.signed]; omega
  go_enter Tryz.func36, Tryz.ntmps36
  go_wp2
  go_ret
  exact ⟨by first | rfl | rw [hw], rfl⟩
theorem number_c (k y : Nat) (w : World) (hk : k < 65536) (hy : y < 65536) :
    Calls Tryz.prog 47 #[.int .u16 k, .int .u16 y] w fun e w' => e = .returned (.int .u32 (65536 * k + y : Nat)) ∧ w' = w := by
  have w0 : IntKind.u32.wrap (k : Int) = k := by simp [IntKind.wrap, IntKind.bits, IntKind.signed]; omega
  have w1 : IntKind.u32.wrap (y : Int) = y := by simp [IntKind.wrap, IntKind.bits, IntKind.signed]; omega
  have w2 : IntKind.u32.wrap ((k : Int) * 65536) = (k : Int) * 65536 := by simp [IntKind.wrap, IntKind.bits, IntKind.signed]; omega
  have w3 : IntKind.u32.wrap ((k : Int) * 65536 + y) = (k : Int) * 65536 + y := by simp [IntKind.wrap, IntKind.bits, IntKind.signed]; omega
  have w4 : (k : Int) * 65536 + y = ((65536 * k + y : Nat) : Int) := by omega
  have W4 := Lib.hid w4
  clear w4
  go_enter Tryz.func47, Tryz.ntmps47
  go_wp2
  go_ret
  exact ⟨by rw [W4.out]; rfl, rfl⟩

/-- The k-th entry's five cells. -/
theorem gsv_at {w : World} {lo hi : Nat} {A : Option Addr} {n c : Nat} {l : List En} (h : GsV eN w lo hi (.slice A n c) l) {k : Nat} (hk : k < l.length) :
    ∃ b off e, A = some ⟨b, off, none⟩ ∧ n = l.length ∧ b < hi ∧ l.drop k = e :: l.drop (k + 1) ∧ l[k]? = some e ∧ w.cell? ⟨b, off + k * 5, none⟩ = some (.int .u16 e.key.toNat) ∧ w.cell? ⟨b, off + k * 5 + 1, none⟩ = some (.int .u8 e.b.κ) ∧
      w.cell? ⟨b, off + k * 5 + 2, none⟩ = some (.slice e.b.A e.b.n e.b.c) ∧ w.cell? ⟨b, off + k * 5 + 3, none⟩ = some (.slice e.b.A2 e.b.n2 e.b.c2) ∧ w.cell? ⟨b, off + k * 5 + 4, none⟩ = some (.slice e.b.A3 e.b.n3 e.b.c3) := by
  obtain ⟨b, off, c', e, -, -, -, hb, hc⟩ := h.form (by rintro rfl; simp at hk)
  injection e with e1 e2 e3
  have h1 := List.getElem?_eq_getElem hk
  have hj := hc k _ h1
  have e5 : ∀ i, off + (eN.n * k + i) = off + k * 5 + i := fun i => by show off + (5 * k + i) = _; omega
  refine ⟨b, off, _, e1, e2, hb, List.drop_eq_getElem_cons hk, h1, ?_, ?_, ?_, ?_, ?_⟩
  · have := hj 0 _ rfl; rwa [e5] at this
  · have := hj 1 _ rfl; rwa [e5] at this
  · have := hj 2 _ rfl; rwa [e5] at this
  · have := hj 3 _ rfl; rwa [e5] at this
  · have := hj 4 _ rfl; rwa [e5] at this
/-- The key at a place. -/
def ka (l : List En) (k : Nat) : Nat := (at16 (l.map En.key) k).toNat
theorem ka_of {A : List En} {j : Nat} {e : En} (h : A[j]? = some e) : ka A j = e.key.toNat := by
  unfold ka
  rw [at16_eq (y := e.key) (by rw [List.getElem?_map, h]; rfl)]
theorem ka_lt {A : List En} (hA : ris (A.map En.key) = true) {i j : Nat} (hi : i < j) (hj : j < A.length) : ka A i < ka A j := ris_at hA hi (by rw [List.length_map]; exact hj)
set_option maxHeartbeats 1000000 in
theorem findcmp_any (f x : Nat) (y : Bd) (w : World) :
    Calls Tryz.prog 61 #[.agg #[.int .u16 f, .int .u8 y.κ, .slice y.A y.n y.c, .slice y.A2 y.n2 y.c2, .slice y.A3 y.n3 y.c3], .int .u16 x] w fun e w' => e = .returned (.int .i64 (cmpv f x)) ∧ Below w.heap.size w w' := by
  have B := Lib.hid (bx w (.cells #[.int .u16 (f : Int), .int .u8 y.κ, .slice y.A y.n y.c, .slice y.A2 y.n2 y.c2, .slice y.A3 y.n3 y.c3] 61))
  go_enter Tryz.func61, Tryz.ntmps61
  go_wp2_with (go_at_call 62; refine (compare_any _ _ _).mono ?_; rintro e w1 ⟨rfl, hz⟩; have hz := hz.symm; subst hz)
  go_ret
  exact ⟨rfl, B.out⟩
set_option maxHeartbeats 4000000 in
theorem bse_any (v : Value) (A : List En) (x : Nat) (w : World) (hv : GsV eN w 0 w.heap.size v A) (hA : ris (A.map En.key) = true) (hb : A.length ≤ 100000000) :
    Calls Tryz.prog 60 #[v, .int .u16 x, .func (.func 61) #[] #[]] w fun e w' => ∃ n : Nat, e = .returned (.tuple #[.int .i64 n, .bool (decide (n < A.length) && decide (ka A n = x))]) ∧ n ≤ A.length ∧ (∀ j, j < n → ka A j < x) ∧ (∀ j, n ≤ j → j < A.length → x ≤ ka A j) ∧ Below w.heap.size w w' := by
  have HE : Enters Tryz.prog 61 := enters_of Tryz.func61 (by kernel_rfl) rfl
  unfold Enters at HE
  have HV := Lib.hid hv
  have HA := Lib.hid hA
  obtain ⟨A1, c1, rfl, -⟩ := hv
  clear hA
  go_enter Tryz.func60, Tryz.ntmps60
  go_wp2
  go_loopw [9, 10] (fun s7 s8 wr => ∃ i j : Nat, i ≤ j ∧ j ≤ A.length ∧ s7 = .int .i64 i ∧ s8 = .int .i64 j ∧ Hid (∀ t, t < i → ka A t < x) ∧ Hid (∀ t, j ≤ t → t < A.length → x ≤ ka A t) ∧ Below w.heap.size w wr) (fun s7 s8 _ => (intOf s8).toNat - (intOf s7).toNat)
  case atStart => exact ⟨0, A.length, Nat.zero_le _, Nat.le_refl _, rfl, rfl, fun t ht => absurd ht (Nat.not_lt_zero _), fun t h1 h2 => absurd h2 (by omega), Below.refl _ _⟩
  case round =>
    obtain ⟨i, j, hij, hj, rfl, rfl, hlo, hhi, hbl⟩ := hrel
    have HB := Lib.hid hbl
    by_cases hlt : i < j
    · obtain ⟨m, hm⟩ : ∃ m, m = (i + j) / 2 := ⟨_, rfl⟩
      have hml : m < A.length := by omega
      obtain ⟨b, off, r, e1, -, hbb, hdr, hg, c0, c1, c2, c3, c4⟩ := gsv_at HV.out hml
      subst e1
      rw [← hbl.cell (p := ⟨b, off + m * 5, none⟩) hbb] at c0
      rw [← hbl.cell (p := ⟨b, off + m * 5 + 1, none⟩) hbb] at c1
      rw [← hbl.cell (p := ⟨b, off + m * 5 + 2, none⟩) hbb] at c2
      rw [← hbl.cell (p := ⟨b, off + m * 5 + 3, none⟩) hbb] at c3
      rw [← hbl.cell (p := ⟨b, off + m * 5 + 4, none⟩) hbb] at c4
      have hfa := ka_of hg
      obtain ⟨f, hfe⟩ : ∃ f, f = r.key.toNat := ⟨_, rfl⟩
      rw [← hfe] at c0 hfa
      have hm1 : ((i : Int) + j) / 2 = m := by omega
      have hi1 : m < j := by omega
      have hi2 : i ≤ m := by omega
      have w0 : IntKind.i64.wrap ((i : Int) + j) = (i : Int) + j := by rw [IntKind.wrap_i64]; omega
      have w1 : IntKind.u64.wrap ((i : Int) + j) = (i : Int) + j := by rw [IntKind.wrap_u64]; omega
      have w2 : IntKind.i64.wrap (m : Int) = m := by rw [IntKind.wrap_i64]; omega
      have hlti : (i : Int) < j := by omega
      have hmli : (m : Int) < A.length := by omega
      have hsz := hbl.size
      by_cases hyc : f < x
      · have hc : cmpv f x = -1 := by unfold cmpv; rw [if_pos (by omega)]
        have hlo2 : ∀ t, t < m + 1 → ka A t < x := fun t ht => by
          rcases Nat.lt_or_ge t m with h | h
          · have := ka_lt HA.out h hml
            omega
          · have : t = m := by omega
            rw [this]; omega
        have HLO := Lib.hid hlo2
        have HC := Lib.hid hc
        clear hm hdr hg hfa hfe hlo hlo2 hbl hc
        go_wp2_with fail
        refine (findcmp_any f x r.b _).mono ?_
        rw [HC.out]
        rintro e w9 ⟨rfl, b9⟩
        have B9 := Lib.hid b9
        clear b9
        go_wp2
        refine ⟨⟨m + 1, j, by omega, by omega, by go_num, rfl, HLO.out, hhi, below_both HB.out B9.out⟩, by simp [intOf]; omega⟩
      · have hc : 0 ≤ cmpv f x := by unfold cmpv; rw [if_neg (by omega)]; split <;> omega
        have hhi2 : ∀ t, m ≤ t → t < A.length → x ≤ ka A t := fun t h1 h2 => by
          rcases Nat.lt_or_ge m t with h | h
          · have := ka_lt HA.out h h2
            omega
          · have : t = m := by omega
            rw [this]; omega
        have HHI := Lib.hid hhi2
        obtain ⟨cv, hcv⟩ : ∃ cv, cv = cmpv f x := ⟨_, rfl⟩
        have HC := Lib.hid hcv
        have hc1 : decide (cv < 0) = false := decide_eq_false (by omega)
        have hc2 : 0 ≤ cv := by omega
        clear hm hdr hg hfa hfe hhi hhi2 hbl hc hcv
        go_wp2_with fail
        refine (findcmp_any f x r.b _).mono ?_
        rw [← HC.out]
        rintro e w9 ⟨rfl, b9⟩
        have B9 := Lib.hid b9
        clear b9
        go_wp2
        refine ⟨⟨i, m, by omega, by omega, rfl, by go_num, hlo, HHI.out, below_both HB.out B9.out⟩, by simp [intOf]; omega⟩
    · obtain rfl : i = j := by omega
      by_cases hi : i < A.length
      · obtain ⟨b, off, r, e1, -, hbb, hdr, hg, c0, c1, c2, c3, c4⟩ := gsv_at HV.out hi
        subst e1
        rw [← hbl.cell (p := ⟨b, off + i * 5, none⟩) hbb] at c0
        rw [← hbl.cell (p := ⟨b, off + i * 5 + 1, none⟩) hbb] at c1
        rw [← hbl.cell (p := ⟨b, off + i * 5 + 2, none⟩) hbb] at c2
        rw [← hbl.cell (p := ⟨b, off + i * 5 + 3, none⟩) hbb] at c3
        rw [← hbl.cell (p := ⟨b, off + i * 5 + 4, none⟩) hbb] at c4
        have hfa := ka_of hg
        obtain ⟨f, hfe⟩ : ∃ f, f = r.key.toNat := ⟨_, rfl⟩
        rw [← hfe] at c0 hfa
        have hii : (i : Int) < A.length := by omega
        obtain ⟨cv, hcv⟩ : ∃ cv, cv = cmpv f x := ⟨_, rfl⟩
        have hR : (decide (i < A.length) && decide (ka A i = x)) = (cv == 0) := by
          rw [decide_eq_true hi, Bool.true_and, hfa, hcv, Bool.eq_iff_iff, decide_eq_true_eq, beq_iff_eq]
          unfold cmpv
          split
          · omega
          · split <;> omega
        have HC := Lib.hid hcv
        have HR := Lib.hid hR
        clear hdr hg hfa hfe hcv hR hbl
        go_wp2_with fail
        refine (findcmp_any f x r.b _).mono ?_
        rw [← HC.out]
        rintro e w9 ⟨rfl, b9⟩
        have B9 := Lib.hid b9
        clear b9
        go_wp2
        go_ret2
        refine ⟨i, ?_, by omega, hlo, hhi, below_both HB.out B9.out⟩
        rw [HR.out]
        rfl
      · have hR : (decide (i < A.length) && decide (ka A i = x)) = false := by rw [decide_eq_false hi, Bool.false_and]
        have HR := Lib.hid hR
        have hii : ¬ (i : Int) < A.length := by omega
        clear hR hbl
        go_wp2
        go_ret2
        refine ⟨i, ?_, by omega, hlo, hhi, HB.out⟩
        rw [HR.out]
        rfl

theorem entries_box (b : Nat) (A : Option Addr) (n c : Nat) (w : World) (hb : Row w b 64 #[.slice A n c]) :
    Calls Tryz.prog 30 #[.pointer (some ⟨b, 0, none⟩)] w fun e w' => e = .returned (.slice A n c) ∧ w' = w := by
  have c0 : w.cell? ⟨b, 0, none⟩ = some (.slice A n c) := hb.cell 0
  clear hb
  go_enter Tryz.func30, Tryz.ntmps30
  go_wp2
  go_ret
  exact ⟨rfl, rfl⟩
/-- Where a key stands among the entries. -/
structure Fnd (es : List En) (P : Nat → Bool) (x i : Nat) : Prop where
  le : i ≤ es.length
  lo : ∀ j, j < i → ka es j < x
  hi : ∀ j, i ≤ j → j < es.length → x ≤ ka es j
  at_ : nz P x = true → ∃ e, es[i]? = some e ∧ e.key.toNat = x
  no : nz P x = false → i < es.length → x < ka es i
set_option maxHeartbeats 1000000 in
theorem find_c {N : Nat → Prop} (P : Nat → Bool) (b x : Nat) (s : Value) (es : List En) (w : World) (hb : Row w b 64 #[s]) (hs : GsV eN w 0 w.heap.size s es) (hd : Dir N w P 0 65536 es) (hx : x < 65536) :
    Calls Tryz.prog 33 #[.pointer (some ⟨b, 0, none⟩), .int .u16 x] w fun e w' => ∃ i : Nat, e = .returned (.tuple #[.int .i64 i, .bool (nz P x)]) ∧ Fnd es P x i ∧ Below w.heap.size w w' := by
  have HB := Lib.hid hb
  have HS := Lib.hid hs
  have HD := Lib.hid hd
  obtain ⟨A, c, rfl, -⟩ := hs
  clear hb hd
  go_enter Tryz.func33, Tryz.ntmps33
  go_wp2_with fail
  refine (entries_box b A es.length c _ HB.out).mono ?_
  rintro e w1 ⟨rfl, hz⟩
  have hz := hz.symm
  subst hz
  go_wp2_with fail
  refine (bse_any _ es x _ HS.out HD.out.ris (Nat.le_trans HD.out.len (by omega))).mono ?_
  rintro e w1 ⟨i, rfl, h1, h2, h3, b1⟩
  have FN : Hid ((decide (i < es.length) && decide (ka es i = x)) = nz P x ∧ Fnd es P x i) := Lib.hid (by
    have key : (decide (i < es.length) && decide (ka es i = x)) = nz P x := by
      rw [Bool.eq_iff_iff, Bool.and_eq_true, decide_eq_true_eq, decide_eq_true_eq]
      constructor
      · rintro ⟨a, c⟩
        obtain ⟨e, he⟩ : ∃ e, es[i]? = some e := ⟨_, List.getElem?_eq_getElem a⟩
        rw [ka_of he] at c
        rw [← c]
        exact (HD.out.mem e (List.mem_of_getElem? he)).2.2.1
      · intro hn
        obtain ⟨e, he, hk⟩ := HD.out.all x (Nat.zero_le _) hx hn
        obtain ⟨j, hj⟩ := List.mem_iff_getElem?.1 he
        have hjl := (List.getElem?_eq_some_iff.1 hj).1
        have hkj := ka_of hj
        rcases Nat.lt_trichotomy j i with h | h | h
        · have := h2 j h; omega
        · subst h; exact ⟨hjl, by omega⟩
        · have g := ka_lt HD.out.ris h hjl
          have := h3 i (Nat.le_refl _) (by omega)
          omega
    refine ⟨key, h1, h2, h3, fun hn => ?_, fun hn hl => ?_⟩
    · rw [← key, Bool.and_eq_true, decide_eq_true_eq, decide_eq_true_eq] at hn
      exact ⟨_, List.getElem?_eq_getElem hn.1, by rw [← ka_of (List.getElem?_eq_getElem hn.1)]; exact hn.2⟩
    · rw [← key, decide_eq_true hl, Bool.true_and, decide_eq_false_iff_not] at hn
      have := h3 i (Nat.le_refl _) hl
      omega)
  have B1 := Lib.hid b1
  clear b1 h1 h2 h3
  rw [FN.out.1]
  obtain ⟨bb, hbb⟩ : ∃ bb, bb = nz P x := ⟨_, rfl⟩
  rw [← hbb]
  have HBB := Lib.hid hbb
  clear hbb
  go_wp2
  go_ret2
  exact ⟨i, by rw [HBB.out]; rfl, FN.out.2, B1.out⟩
theorem find_none (x : Nat) (w : World) (hx : x < 65536) :
    Calls Tryz.prog 33 #[.pointer none, .int .u16 x] w fun e w' => e = .returned (.tuple #[.int .i64 0, .bool false]) ∧ Below w.heap.size w w' := by
  go_enter Tryz.func33, Tryz.ntmps33
  go_wp2_with fail
  refine (entries_c (N := fun _ => True) (.pointer none) (fun _ => false) _ (.none fun _ _ => rfl)).mono ?_
  rintro e w1 ⟨A, n, c, es, rfl, hz, g, d⟩
  have hz := hz.symm
  subst hz
  have he : es = [] := by
    cases es with
    | nil => rfl
    | cons e es => have := d.head.2.2.1; rw [nz_not.2 (fun _ _ => rfl)] at this; cases this
  subst he
  have hn : n = 0 := by obtain ⟨_, _, e, _⟩ := g; injection e
  subst hn
  have G := Lib.hid g
  clear g d
  go_wp2_with fail
  refine (bse_any _ [] x _ G.out rfl (by simp)).mono ?_
  rintro e w1 ⟨i, rfl, h1, -, -, b1⟩
  have h0 : i = 0 := by simpa using h1
  subst h0
  have B1 := Lib.hid b1
  clear b1 h1
  go_wp2
  go_ret2
  exact ⟨rfl, B1.out⟩
end Go.Proofs.YtcmifbjeabkihabGreatDoor
namespace Go.Proofs.YtcmifbjeabkihabGreatDoor
open Go.RowKit
set_option linter.unusedVariables false

/-- The number of which K are below it, else 0; whether there is one. -/
def sx (p : Nat → Bool) (K : Int) : UInt16 := if 0 ≤ K then (ls p 65536).getD K.toNat 0 else 0
def so (p : Nat → Bool) (K : Int) : Bool := decide (0 ≤ K) && decide (K < (ct p 65536 : Nat))
theorem sel_no {p : Nat → Bool} {K : Int} (h : K < 0 ∨ (ct p 65536 : Nat) ≤ K) : sx p K = 0 ∧ so p K = false := by
  unfold sx so
  by_cases h0 : 0 ≤ K
  · have h1 : ((ct p 65536 : Nat) : Int) ≤ K := by omega
    rw [if_pos h0, decide_eq_false (show ¬ K < ((ct p 65536 : Nat) : Int) by omega), Bool.and_false, List.getD_eq_getElem?_getD, List.getElem?_eq_none (by rw [ls_ct]; omega)]
    exact ⟨rfl, rfl⟩
  · rw [if_neg h0, decide_eq_false h0]
    exact ⟨rfl, rfl⟩
theorem sel_yes {p : Nat → Bool} {K : Int} {y : Nat} (hy : y < 65536) (hp : p y = true) (hK : K = (ct p y : Nat)) : sx p K = UInt16.ofNat y ∧ so p K = true := by
  subst hK
  have h1 := ls_at p hy hp
  have h2 : ct p (y + 1) = ct p y + 1 := by rw [ct, hp]; rfl
  have h3 := ct_mono p (a := y + 1) (b := 65536) (by omega)
  unfold sx so
  rw [if_pos (by omega), Int.toNat_natCast, decide_eq_true (by omega), decide_eq_true (by omega), List.getD_eq_getElem?_getD, h1]
  exact ⟨rfl, rfl⟩
theorem word_ct (l : List UInt64) (i a : Nat) (ha : a = (l.getD i 0).toNat) : ct (wb l) (64 * i) + ct a.testBit 64 = ct (wb l) (64 * (i + 1)) := by
  have e : ct a.testBit 64 = ct (fun j => wb l (64 * i + j)) 64 := ct_ext fun j hj => by rw [ha, wb_at _ _ _ hj]
  rw [e, ← ct_add]
  congr 1

/-- The k-th number, if there is one. -/
def selo : Option Nat → Value
  | some y => .tuple #[.int .u16 (y : Int), .bool true]
  | none => .tuple #[.int .u16 0, .bool false]
def selv (A : List Rn) (k : Int) : Value := if k < 0 then selo none else selo (sel A k.toNat)
end Go.Proofs.YtcmifbjeabkihabGreatDoor
