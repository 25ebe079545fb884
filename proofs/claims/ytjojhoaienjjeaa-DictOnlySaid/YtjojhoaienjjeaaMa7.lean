/- Walks: dict's first, Find, span, Interval. -/
import Derived.Test.YtjojhoaienjjeaaMa3
import Derived.Shelf.Abstract
import Derived.Test.YtjojhoaienjjeaaMa6
import Derived.Lib.SlicesCompact
import Derived.Lib.SliceRun
import Derived.Test.YtjojhoaienjjeaaMa0
import Derived.Sort.Grow
import Derived.Shelf.SlGeneric
import Derived.Shelf.SlSortCmp.WholeK
import Derived.Shelf.SlSortCmp.NoneTotal
import Derived.Ground.SlsfProg
import Derived.Test.YtjojhoaienjjeaaProg
import Derived.Deep.QuietTactic
/- Walks: dict's small functions: which kind there is, which value may not be; IndexFunc and ContainsFunc of values; Clone. -/
namespace Go.Proofs.Ytjojhoaienjjeaa
open Go.RowKit
set_option linter.unusedVariables false

/-- Is there such a kind? -/
def kindI (k : Int) : Bool := decide (k = 1 ∨ k = 2)
theorem may_kind (k : Int) : mayV k 0 (bls ⟨#[]⟩) = kindI k := by
  unfold mayV kindI
  by_cases h1 : k = 1
  · subst h1; rfl
  · rw [if_neg h1]
    by_cases h2 : k = 2
    · subst h2; rfl
    · rw [if_neg h2]; simp [h1, h2]
set_option maxHeartbeats 400000 in
theorem iskind_any (k : Int) (w : World) : Calls Try.prog 25 #[.int .u8 k] w fun e w' => e = .returned (.bool (kindI k)) ∧ Below w.heap.size w w' := by
  have hcon := fun W => may_any k 0 ⟨#[]⟩ W
  rw [may_kind] at hcon
  go_enter Try.func25, Try.ntmps25
  go_wp2_with (go_at_call 37; refine (hcon _).mono ?_; rintro e w1 ⟨rfl, b1⟩; have B1 := Lib.hid b1; clear b1)
  go_ret
  exact ⟨rfl, B1.out⟩
set_option maxHeartbeats 400000 in
theorem maynot_any (X : VV) (w : World) : Calls Try.prog 27 #[vV X.k X.n X.s] w fun e w' => e = .returned (.bool (!mayW X)) ∧ Below w.heap.size w w' := by
  obtain ⟨B, hB⟩ : ∃ B, mayW X = B := ⟨_, rfl⟩
  have hcon := fun W => may_any X.k X.n X.s W
  have hB2 : mayV X.k X.n (bls X.s) = B := hB
  rw [hB2] at hcon
  rw [hB]
  clear hB hB2
  have HW := Lib.hid (Bx1.new w X.k X.n X.s)
  have a0 := HW.out.a0
  have a1 := HW.out.a1
  have a2 := HW.out.a2
  cases B with
  | true =>
    go_enter Try.func27, Try.ntmps27
    go_wp2_with (go_at_call 37; refine (hcon _).mono ?_; rintro e w1 ⟨rfl, b1⟩; have B1 := Lib.hid (HW.out.step b1); clear b1)
    go_ret
    exact ⟨rfl, B1.out.below⟩
  | false =>
    go_enter Try.func27, Try.ntmps27
    go_wp2_with (go_at_call 37; refine (hcon _).mono ?_; rintro e w1 ⟨rfl, b1⟩; have B1 := Lib.hid (HW.out.step b1); clear b1)
    go_ret
    exact ⟨rfl, B1.out.below⟩
set_option maxHeartbeats 400000 in
theorem other_any (X : VV) (g : Nat) (kind : Int) (w : World) (hg : w.cell? ⟨g, 0, none⟩ = some (.int .u8 kind)) (hl : g < w.heap.size) : Calls Try.prog 29 #[vV X.k X.n X.s, .pointer (some ⟨g, 0, none⟩)] w fun e w' => e = .returned (.bool (X.k != kind)) ∧ Below w.heap.size w w' := by
  have HW := Lib.hid (Bx1.new w X.k X.n X.s)
  have a0 := HW.out.a0
  have c0 := (HW.out.below.cell (p := ⟨g, 0, none⟩) hl).trans hg
  clear hg hl
  obtain ⟨B, hB⟩ : ∃ B, (X.k != kind) = B := ⟨_, rfl⟩
  have HB := Lib.hid hB
  rw [hB]
  clear hB
  go_enter Try.func29, Try.ntmps29
  go_wp2
  go_ret
  exact ⟨by rw [← HB.out]; rfl, HW.out.below⟩

set_option maxHeartbeats 1000000 in
theorem indexV_any (g : Nat) (lb : Array Value) (p : VV → Bool) (A : Option Addr) (d : Nat) (l : List VV) (w : World) (hG : GsV eV w 0 w.heap.size (.slice A l.length d) l) (eg : Enters Try.prog g)
    (hp : ∀ W X, Below w.heap.size w W → Calls Try.prog g (#[vV X.k X.n X.s] ++ lb) W fun e w' => e = .returned (.bool (p X)) ∧ Below W.heap.size W w') :
    Calls Try.prog 50 #[.slice A l.length d, .func (.func g) #[] lb] w fun e w' => ∃ r : Int, e = .returned (.int .i64 r) ∧ (decide (0 ≤ r) = l.any p) ∧ Below w.heap.size w w' := by
  have HE := eg
  unfold Enters at HE
  have HG := Lib.hid hG
  have HP := Lib.hid hp
  have hl1 := hG.len
  clear hG eg hp
  go_enter Try.func50, Try.ntmps50
  go_wp2
  go_loopw [8] (fun i wr => ∃ j : Nat, i = .int .i64 j ∧ j ≤ l.length ∧ Hid ((l.take j).any p = false ∧ Below w.heap.size w wr)) (fun i _ => l.length - (intOf i).toNat)
  case atStart => exact ⟨0, rfl, Nat.zero_le _, Lib.hid ⟨rfl, Below.refl _ _⟩⟩
  case round =>
    obtain ⟨j, rfl, hj, hI⟩ := hrel
    have HI := Lib.hid hI.out
    have hb0 := hI.out.2
    clear hI
    by_cases hlt : j < l.length
    · have hG := HG.out
      obtain ⟨b, boff, bc', e, -, -, -, bw, hc⟩ := hG.form (fun e => by have h := congrArg List.length e; simp only [List.length_nil] at h; omega)
      injection e with e1 e2 e3
      clear e2
      subst e1 e3
      obtain ⟨Y, hY⟩ : ∃ Y, l[j]? = some Y := ⟨_, List.getElem?_eq_getElem (by omega)⟩
      have q0 := (hb0.cell (p := ⟨b, _, none⟩) bw).trans (vcell0 (hc j Y hY))
      have q1 := (hb0.cell (p := ⟨b, _, none⟩) bw).trans (vcell1 (hc j Y hY))
      have q2 := (hb0.cell (p := ⟨b, _, none⟩) bw).trans (vcell2 (hc j Y hY))
      have hcall := HP.out wr Y hb0
      have HSN := Lib.hid (show l.take (j + 1) = l.take j ++ [Y] by rw [List.take_add_one, hY]; rfl)
      have HY := Lib.hid (List.mem_of_getElem? hY)
      clear hc hG hY hb0
      cases hq : p Y with
      | true =>
        rw [hq] at hcall
        have HQ := Lib.hid hq
        clear hq
        go_wp2_with fail
        refine hcall.mono ?_
        clear hcall
        rintro e w2 ⟨rfl, b2⟩
        have B2 := Lib.hid (HI.out.2.trans (b2.mono HI.out.2.size))
        clear b2
        go_wp2
        go_ret
        exact ⟨(j : Int), rfl, by rw [decide_eq_true (by omega : (0 : Int) ≤ j)]; exact (List.any_eq_true.2 ⟨Y, HY.out, HQ.out⟩).symm, B2.out⟩
      | false =>
        rw [hq] at hcall
        have HQ := Lib.hid hq
        clear hq
        go_wp2_with fail
        refine hcall.mono ?_
        clear hcall
        rintro e w2 ⟨rfl, b2⟩
        have B2 := Lib.hid (HI.out.2.trans (b2.mono HI.out.2.size))
        clear b2
        go_wp2
        go_roundw
        case rel => exact ⟨j + 1, by go_num, by omega, Lib.hid ⟨by rw [HSN.out, List.any_append, HI.out.1, List.any_cons, HQ.out]; rfl, B2.out⟩⟩
        case measure => simp [intOf]; omega
    · have ej : j = l.length := by omega
      subst ej
      have HA := Lib.hid (show l.any p = false by have := HI.out.1; rwa [List.take_length] at this)
      clear hb0
      go_wp2
      go_ret
      exact ⟨-1, rfl, by rw [HA.out]; rfl, HI.out.2⟩
set_option maxHeartbeats 400000 in
theorem anyV_any (g : Nat) (lb : Array Value) (p : VV → Bool) (A : Option Addr) (d : Nat) (l : List VV) (w : World) (hG : GsV eV w 0 w.heap.size (.slice A l.length d) l) (eg : Enters Try.prog g)
    (hp : ∀ W X, Below w.heap.size w W → Calls Try.prog g (#[vV X.k X.n X.s] ++ lb) W fun e w' => e = .returned (.bool (p X)) ∧ Below W.heap.size W w') :
    Calls Try.prog 26 #[.slice A l.length d, .func (.func g) #[] lb] w fun e w' => e = .returned (.bool (l.any p)) ∧ Below w.heap.size w w' := by
  have HC := Lib.hid (indexV_any g lb p A d l w hG eg hp)
  clear hG hp
  go_enter Try.func26, Try.ntmps26
  go_wp2_with (go_at_call 50; refine HC.out.mono ?_; rintro e w1 ⟨r, rfl, hr, b1⟩; have HR := Lib.hid hr; have B1 := Lib.hid b1; clear hr b1)
  go_ret
  exact ⟨by rw [← HR.out]; rfl, B1.out⟩

set_option maxHeartbeats 400000 in
theorem cloneV_any (v : Value) (l : List VV) (lo : Nat) (w : World) (hv : GsV eV w lo w.heap.size v l) (hb : l.length ≤ 100000000) :
    Calls Try.prog 30 #[v] w fun e w' => ∃ v', e = .returned v' ∧ GwV eV w' w.heap.size v' l ∧ Below w.heap.size w w' := by
  have hv0 := hv
  obtain ⟨A, c, rfl, hc0, -, -, hbt⟩ := hv
  cases A with
  | none =>
    obtain rfl := hc0 rfl
    have hl : l = [] := by
      by_cases h : l = []
      · exact h
      · obtain ⟨b, off, e, _⟩ := hbt h
        cases e
    subst hl
    clear hc0 hbt hv0
    have hq := fun W n c => Lib.run_eql_slice_nil (P := Try.prog) W 22 38 none n c 0 0 Try.underlying22
    simp only [Option.isNone_none] at hq
    go_enter Try.func30, Try.ntmps30
    go_wp2
    go_ret
    exact ⟨_, rfl, GwV.nil_ _ _, Below.refl _ _⟩
  | some ad =>
    clear hc0 hbt
    have hq := fun W n c => Lib.run_eql_slice_nil (P := Try.prog) W 22 38 (some ad) n c 0 0 Try.underlying22
    simp only [Option.isNone_some] at hq
    go_enter Try.func30, Try.ntmps30
    go_wp2_with (at_builtin; refine wpList_gappv eV _ rfl _ _ _ rfl w.heap.size sliV infV _ [] rfl (GwV.empty_ _ _ (Nat.le_refl _)) lo w.heap.size _ l rfl (hv0.alloc (Nat.le_refl _) _) (by simp; omega) (by simp) ?_; intro v2 w2 o2 g2 _)
    go_ret
    exact ⟨v2, rfl, by simpa using o2, ((Below.refl _ _).alloc (Nat.le_refl _) _).grown g2 (by simp) (fun k h => by injection h with h; subst h; exact Nat.le_refl _)⟩
end Go.Proofs.Ytjojhoaienjjeaa
/- Walks: Compact of values. -/
namespace Go.Proofs.Ytjojhoaienjjeaa
open Go.RowKit
set_option linter.unusedVariables false

instance : DecidableEq VV := fun x y => if h : cmpW x y = 0 then .isTrue (cmpW_zero.1 h) else .isFalse (fun e => h (cmpW_zero.2 e))
theorem neql_V (x y : VV) : ∀ W : World, (binOp .neq 38 (Value.agg #[.int .u8 x.k, .int .i64 x.n, .string x.s]) (Value.agg #[.int .u8 y.k, .int .i64 y.n, .string y.s])).run Try.prog W = Result.ok (Value.bool (!eqW x y)) W := by
  intro W
  rcases eqW_cases x y with ⟨h1, e⟩ | ⟨h1, h2, e⟩ | ⟨h1, h2, h3, e⟩ | ⟨h, e⟩
  · rw [e]; go_simp
  · rw [e, h1]; go_simp
  · have h4 : ¬ x.s.toList = y.s.toList := by rw [bls_list, bls_list]; exact h3
    rw [e, h1, h2]; go_simp
  · rw [e, h]; go_simp
/-- A row of values that lies in a block from its begin on, and may be written. -/
structure Rw (W : World) (b : Nat) (dk : Array VV) : Prop where
  c0 : ∀ j, j < dk.size → W.cell? ⟨b, j * 3, none⟩ = some (.int .u8 dk[j]!.k)
  c1 : ∀ j, j < dk.size → W.cell? ⟨b, j * 3 + 1, none⟩ = some (.int .i64 dk[j]!.n)
  c2 : ∀ j, j < dk.size → W.cell? ⟨b, j * 3 + 2, none⟩ = some (.string dk[j]!.s)
  fr : ∀ o, o < 3 * dk.size → W.frozen? ⟨b, o, none⟩ = false
  lt : b < W.heap.size
theorem Rw.drewN {W : World} {b : Nat} {dk : Array VV} (h : Rw W b dk) (m : Nat) : Rw (W.drewN m) b dk := ⟨h.c0, h.c1, h.c2, h.fr, h.lt⟩
theorem addr_ne {b o o' : Nat} (h : o ≠ o') : (⟨b, o, none⟩ : Addr) ≠ ⟨b, o', none⟩ := fun e => h (congrArg Addr.off e)
theorem Rw.put {W : World} {b : Nat} {dk : Array VV} (h : Rw W b dk) {i : Nat} (hi : i < dk.size) (x : VV) :
    Rw (((W.setCell ⟨b, i * 3, none⟩ (.int .u8 x.k)).setCell ⟨b, i * 3 + 1, none⟩ (.int .i64 x.n)).setCell ⟨b, i * 3 + 2, none⟩ (.string x.s)) b (dk.setIfInBounds i x) := by
  have hs : (dk.setIfInBounds i x).size = dk.size := by simp
  refine ⟨fun j hj => ?_, fun j hj => ?_, fun j hj => ?_, fun o ho => by rw [hs] at ho; simp only [World.frozen?_setCell]; exact h.fr o ho, by simpa [World.setCell] using h.lt⟩
  · rw [hs] at hj
    rw [World.cell?_setCell_other _ _ _ _ (addr_ne (by omega)), World.cell?_setCell_other _ _ _ _ (addr_ne (by omega))]
    by_cases e : j = i
    · subst e
      rw [Go.Sort.getElem!_set_same dk j x hj]
      exact World.cell?_setCell_same _ _ _ (h.c0 j hj)
    · rw [Go.Sort.getElem!_set_other dk i j x e, World.cell?_setCell_other _ _ _ _ (addr_ne (by omega))]
      exact h.c0 j hj
  · rw [hs] at hj
    rw [World.cell?_setCell_other _ _ _ _ (addr_ne (by omega))]
    by_cases e : j = i
    · subst e
      rw [Go.Sort.getElem!_set_same dk j x hj]
      exact World.cell?_setCell_same _ _ _ (by rw [World.cell?_setCell_other _ _ _ _ (addr_ne (by omega))]; exact h.c1 j hj)
    · rw [Go.Sort.getElem!_set_other dk i j x e, World.cell?_setCell_other _ _ _ _ (addr_ne (by omega)), World.cell?_setCell_other _ _ _ _ (addr_ne (by omega))]
      exact h.c1 j hj
  · rw [hs] at hj
    by_cases e : j = i
    · subst e
      rw [Go.Sort.getElem!_set_same dk j x hj]
      exact World.cell?_setCell_same _ _ _ (by rw [World.cell?_setCell_other _ _ _ _ (addr_ne (by omega)), World.cell?_setCell_other _ _ _ _ (addr_ne (by omega))]; exact h.c2 j hj)
    · rw [Go.Sort.getElem!_set_other dk i j x e, World.cell?_setCell_other _ _ _ _ (addr_ne (by omega)), World.cell?_setCell_other _ _ _ _ (addr_ne (by omega)), World.cell?_setCell_other _ _ _ _ (addr_ne (by omega))]
      exact h.c2 j hj
/-- The head of a row, as a slice. -/
theorem gsv_row {W : World} {b : Nat} {m : List VV} {c lo : Nat} (hc : m.length ≤ c) (hm : c ≤ maxLen) (hlo : lo ≤ b) (hlt : b < W.heap.size)
    (h : ∀ j x, m[j]? = some x → W.cell? ⟨b, j * 3, none⟩ = some (.int .u8 x.k) ∧ W.cell? ⟨b, j * 3 + 1, none⟩ = some (.int .i64 x.n) ∧ W.cell? ⟨b, j * 3 + 2, none⟩ = some (.string x.s)) :
    GsV eV W lo W.heap.size (.slice (some ⟨b, 0, none⟩) m.length c) m := by
  refine ⟨some ⟨b, 0, none⟩, c, rfl, fun e => (by cases e), hc, hm, fun _ => ⟨b, 0, rfl, hlo, hlt, fun j x hx i u hu => ?_⟩⟩
  obtain ⟨q0, q1, q2⟩ := h j x hx
  rw [show 0 + (eV.n * j + i) = j * 3 + i from by simp [eV]; omega]
  match i, hu with
  | 0, hu => simp [eV] at hu; subst hu; exact q0
  | 1, hu => simp [eV] at hu; subst hu; exact q1
  | 2, hu => simp [eV] at hu; subst hu; exact q2
  | i + 3, hu => simp [eV] at hu
theorem below_setCells (B b : Nat) (hb : B ≤ b) : ∀ (vs : List Value) (o : Nat) (W : World), Below B W (W.setCells b o vs)
  | [], o, W => Below.refl _ _
  | v :: r, o, W => ((Below.refl B W).setCell (p := ⟨b, o, none⟩) hb v).trans (below_setCells B b hb r (o + 1) _)
theorem size_setCells (b : Nat) : ∀ (vs : List Value) (o : Nat) (W : World), (W.setCells b o vs).heap.size = W.heap.size
  | [], o, W => rfl
  | v :: r, o, W => (size_setCells b r (o + 1) _).trans (by simp [World.setCell])
theorem run_clearV (W : World) (b o n c : Nat) (hn : 0 < n) (hc : ∀ j, j < n * 3 → (W.cell? ⟨b, o + j, none⟩).isSome = true) (hf : ∀ j, j < n * 3 → W.frozen? ⟨b, o + j, none⟩ = false) :
    ∃ vs : List Value, vs.length = n * 3 ∧ ∀ ty, (Builtin.clear_ #[22] ty #[.slice (some ⟨b, o, none⟩) n c]).run Try.prog W = .ok (.tuple #[]) (W.setCells b o vs) := by
  have hz : ∀ W : World, (zeroValue 38).run Try.prog W = .ok (eV.val eV.zero) W := fun W => Try.zeroValue38 W
  have hcs : (eV.val eV.zero).cells = #[.int .u8 0, .int .i64 0, .string ⟨#[]⟩] := rfl
  have hl : ((Builtin.zeroCells #[Value.int .u8 0, .int .i64 0, .string ⟨#[]⟩] n).toList).length = n * 3 := by simp [Builtin.zeroCells]
  refine ⟨(Builtin.zeroCells #[Value.int .u8 0, .int .i64 0, .string ⟨#[]⟩] n).toList, hl, fun ty => ?_⟩
  have h1 : ∀ v ∈ (Builtin.zeroCells #[Value.int .u8 0, .int .i64 0, .string ⟨#[]⟩] n).toList, v.oneCell' = true := by
    intro v hv
    simp only [Builtin.zeroCells, Array.toList_map, List.mem_map] at hv
    obtain ⟨i, -, rfl⟩ := hv
    have : i % 3 = 0 ∨ i % 3 = 1 ∨ i % 3 = 2 := by omega
    show Value.oneCell' (#[Value.int .u8 0, .int .i64 0, .string ⟨#[]⟩][i % 3]!) = true
    rcases this with e | e | e <;> rw [e] <;> rfl
  have hst := run_storeCells_cells (P := Try.prog) b o _ 0 W (by rw [hl]; simpa using hc) (by rw [hl]; simpa using hf) h1
  simp only [Nat.add_zero] at hst
  obtain ⟨m, rfl⟩ : ∃ m, n = m + 1 := ⟨n - 1, by omega⟩
  simp only [Builtin.clear_]
  simp [run_underlying Try.underlying22, hz, hcs, hst]
end Go.Proofs.Ytjojhoaienjjeaa
/- Walks: Compact of values: the loops. -/
namespace Go.Proofs.Ytjojhoaienjjeaa
open Go.RowKit
set_option linter.unusedVariables false

set_option maxHeartbeats 4000000 in
set_option maxRecDepth 100000 in
theorem compactV_any (b c base : Nat) (d : Array VV) (w : World) (hH : Rw w b d) (hc : d.size ≤ c) (hm : c ≤ maxLen) (hb : base ≤ b) (hbase : base ≤ w.heap.size) :
    Calls Try.prog 52 #[.slice (some ⟨b, 0, none⟩) d.size c] w fun e w' => ∃ m : Nat, e = .returned (.slice (some ⟨b, 0, none⟩) m c) ∧ m = (Go.Lib.compactUpTo d d.size).length ∧ GsV eV w' base w'.heap.size (.slice (some ⟨b, 0, none⟩) m c) (Go.Lib.compactUpTo d d.size) ∧ Below base w w' := by
  have HH := Lib.hid hH
  have hsz : d.size ≤ 9223372036854775807 := by unfold maxLen at hm; omega
  have hcz : c ≤ 9223372036854775807 := by unfold maxLen at hm; omega
  have HM := Lib.hid hm
  have HB := Lib.hid hb
  have HBS := Lib.hid hbase
  have hall : (∀ j, j < d.size → Go.Lib.keeps d j = true) → ∀ q, (Go.Lib.compactUpTo d d.size).length = d.size ∧ GsV eV (w.drewN q) base (w.drewN q).heap.size (.slice (some ⟨b, 0, none⟩) d.size c) (Go.Lib.compactUpTo d d.size) := by
    intro h q
    have e : Go.Lib.compactUpTo d d.size = d.toList := by rw [Go.Lib.compactUpTo_all d _ h, Go.Lib.range_map_get]
    rw [e]
    have hl : d.toList.length = d.size := by simp
    refine ⟨hl, ?_⟩
    have hg := gsv_row (W := w.drewN q) (b := b) (m := d.toList) (c := c) (lo := base) (by rw [hl]; exact hc) hm hb hH.lt (fun j x hx => by
      have hj : j < d.size := by have := (List.getElem?_eq_some_iff.1 hx).1; rwa [hl] at this
      have hx2 : d[j]! = x := by
        rw [getElem!_pos d j hj]
        have := (List.getElem?_eq_some_iff.1 hx).2
        simpa using this
      subst hx2
      exact ⟨hH.c0 j hj, hH.c1 j hj, hH.c2 j hj⟩)
    rwa [hl] at hg
  have HALL := Lib.hid hall
  clear hall hH hm hb hbase
  by_cases h2 : d.size < 2
  · obtain ⟨n, hn⟩ : ∃ n, d.size = n := ⟨_, rfl⟩
    have HN := Lib.hid hn
    rw [hn] at h2 ⊢
    clear hn hsz hcz hc
    have h3 : decide ((n : Int) < 2) = true := decide_eq_true (by omega)
    go_enter Try.func52, Try.ntmps52
    go_wp2
    go_ret
    obtain ⟨e1, e2⟩ := HALL.out (fun j hj => Go.Lib.keeps_lt_one d j (by have := HN.out; omega)) 0
    rw [HN.out] at e1 e2
    exact ⟨n, rfl, e1.symm, e2, Below.refl _ _⟩
  · go_enter Try.func52, Try.ntmps52
    go_wp2
    go_loopw [3] (fun s3 wr => ∃ k q : Nat, 1 ≤ k ∧ k ≤ d.size ∧ s3 = .int .i64 k ∧ wr = w.drewN q ∧ Hid (∀ j, j < k → Go.Lib.keeps d j = true)) (fun s3 _ => d.size - (intOf s3).toNat)
    case atStart => exact ⟨1, 0, Nat.le_refl _, by omega, rfl, rfl, Lib.hid (Go.Lib.keeps_lt_one d)⟩
    case round =>
      obtain ⟨k, q, hk1, hk, rfl, rfl, hI⟩ := hrel
      have A := Lib.hid hI.out
      clear hI
      by_cases hlt : k < d.size
      · have p0 := HH.out.c0 k hlt
        have p1 := HH.out.c1 k hlt
        have p2 := HH.out.c2 k hlt
        have q0 := HH.out.c0 (k - 1) (by omega)
        have q1 := HH.out.c1 (k - 1) (by omega)
        have q2 := HH.out.c2 (k - 1) (by omega)
        obtain ⟨X, hX⟩ : ∃ X, d[k]! = X := ⟨_, rfl⟩
        obtain ⟨Y, hY⟩ : ∃ Y, d[k - 1]! = Y := ⟨_, rfl⟩
        rw [hX] at p0 p1 p2
        rw [hY] at q0 q1 q2
        have BX := Lib.hid hX
        have BY := Lib.hid hY
        clear hX hY
        have tt := eql_V X Y
        cases hq : eqW X Y with
        | true =>
          rw [hq] at tt
          have HQ := Lib.hid (eqW_iff.1 hq)
          clear hq
          go_wp2
          go_region
          clear p0 p1 p2 q0 q1 q2 tt
          go_wp2
          obtain ⟨W0, hW0⟩ : ∃ W0, W0 = (w.drewN q).drew := ⟨_, rfl⟩
          have HW0 := Lib.hid (show Rw W0 b d ∧ Below base w W0 by rw [hW0]; exact ⟨HH.out.drewN (q + 1), below_drewN (Below.refl _ _) (q + 1)⟩)
          go_loopw [3, 5] (fun s3 s5 wr => ∃ (kk k2 : Nat) (dk : Array VV), s3 = .int .i64 kk ∧ s5 = .int .i64 k2 ∧ 1 ≤ k2 ∧ k + k2 ≤ d.size ∧ kk < k + k2 ∧ Hid (Rw wr b dk ∧ Below base w wr ∧ Go.Lib.CompInv d (k + k2) kk dk)) (fun _ s5 _ => d.size - (intOf s5).toNat)
          case atStart => exact ⟨k, 1, d, rfl, rfl, Nat.le_refl _, by omega, by omega, Lib.hid ⟨HH.out.drewN (q + 1), below_drewN (Below.refl _ _) (q + 1), Go.Lib.CompInv.start A.out (Go.Lib.keeps_neg (by omega) (by rw [BX.out, BY.out, HQ.out]))⟩⟩
          case round =>
            obtain ⟨kk, k2, dk, rfl, rfl, h1, hle, hkk, hI⟩ := hrel
            have I2 := Lib.hid hI.out
            have hds := hI.out.2.2.size
            clear hI
            by_cases hlt2 : k + k2 < d.size
            · have p0 := I2.out.1.c0 (k + k2) (by omega)
              have p1 := I2.out.1.c1 (k + k2) (by omega)
              have p2 := I2.out.1.c2 (k + k2) (by omega)
              have q0 := I2.out.1.c0 (k + k2 - 1) (by omega)
              have q1 := I2.out.1.c1 (k + k2 - 1) (by omega)
              have q2 := I2.out.1.c2 (k + k2 - 1) (by omega)
              have r0 := I2.out.1.c0 kk (by omega)
              have r1 := I2.out.1.c1 kk (by omega)
              have r2 := I2.out.1.c2 kk (by omega)
              have f0 := I2.out.1.fr (kk * 3) (by omega)
              have f1 := I2.out.1.fr (kk * 3 + 1) (by omega)
              have f2 := I2.out.1.fr (kk * 3 + 2) (by omega)
              rw [I2.out.2.2.high (k + k2) (by omega), show (k + k2) * 3 = k * 3 + k2 * 3 by omega] at p0 p1 p2
              rw [I2.out.2.2.high (k + k2 - 1) (by omega), show (k + k2 - 1) * 3 = k * 3 + (k2 - 1) * 3 by omega] at q0 q1 q2
              obtain ⟨U, hU⟩ : ∃ U, d[k + k2]! = U := ⟨_, rfl⟩
              obtain ⟨V, hV⟩ : ∃ V, d[k + k2 - 1]! = V := ⟨_, rfl⟩
              rw [hU] at p0 p1 p2
              rw [hV] at q0 q1 q2
              generalize dk[kk]! = old at r0 r1 r2
              have BU := Lib.hid hU
              have BV := Lib.hid hV
              clear hU hV
              have tt := neql_V U V
              cases hq : eqW U V with
              | true =>
                rw [hq] at tt
                have HQ2 := Lib.hid (eqW_iff.1 hq)
                clear hq
                go_wp2
                go_region
                go_wp2
                go_roundw
                case rel => exact ⟨kk, k2 + 1, dk, rfl, by go_num, by omega, by omega, by omega, Lib.hid ⟨I2.out.1.drewN 1, I2.out.2.1.drew, I2.out.2.2.skip (Go.Lib.keeps_neg (by omega) (by rw [BU.out, BV.out, HQ2.out]))⟩⟩
                case measure => simp [intOf]; omega
              | false =>
                rw [hq] at tt
                have HQ2 := Lib.hid (eqW_not.1 hq)
                clear hq
                go_wp2
                go_region
                go_wp2
                go_roundw
                case rel => exact ⟨kk + 1, k2 + 1, dk.setIfInBounds kk U, by go_num, by go_num, by omega, by omega, by omega, Lib.hid ⟨(I2.out.1.drewN 1).put (by omega) U, ((I2.out.2.1.drew.setCell HB.out _).setCell HB.out _).setCell HB.out _, by have := I2.out.2.2.keep hlt2 (Go.Lib.keeps_pos (by rw [BU.out, BV.out]; exact HQ2.out)); rwa [BU.out] at this⟩⟩
                case measure => simp [intOf]; omega
            · have hend : k + k2 = d.size := by omega
              obtain ⟨vs, hvl, hcl0⟩ := run_clearV wr b (kk * 3) (d.size - kk) (c - kk) (by omega)
                (fun j hj => by
                  have hjd : (kk * 3 + j) / 3 < dk.size := by omega
                  have : (kk * 3 + j) % 3 = 0 ∨ (kk * 3 + j) % 3 = 1 ∨ (kk * 3 + j) % 3 = 2 := by omega
                  rcases this with h | h | h
                  · rw [show kk * 3 + j = (kk * 3 + j) / 3 * 3 by omega, I2.out.1.c0 _ hjd]; rfl
                  · rw [show kk * 3 + j = (kk * 3 + j) / 3 * 3 + 1 by omega, I2.out.1.c1 _ hjd]; rfl
                  · rw [show kk * 3 + j = (kk * 3 + j) / 3 * 3 + 2 by omega, I2.out.1.c2 _ hjd]; rfl)
                (fun j hj => I2.out.1.fr _ (by omega))
              have HV := Lib.hid hvl
              have KL := Lib.hid hend
              clear hvl
              go_wp2
              go_ret
              have hlen := I2.out.2.2.len
              rw [KL.out] at hlen
              have hkd : kk < d.size := by omega
              have hlow := I2.out.2.2.low
              rw [KL.out] at hlow
              have hg := gsv_row (W := wr.setCells b (kk * 3) vs) (b := b) (m := Go.Lib.compactUpTo d d.size) (c := c) (lo := base) (by rw [hlen]; omega) HM.out HB.out (by rw [size_setCells]; exact I2.out.1.lt) (fun j x hx => by
                have hj : j < kk := by have := (List.getElem?_eq_some_iff.1 hx).1; rwa [hlen] at this
                have hx2 := hlow j hj
                rw [hx] at hx2
                injection hx2 with hx2
                subst hx2
                have o := fun i (hi : j * 3 + i < kk * 3) => World.cell?_setCells_out b vs (kk * 3) wr ⟨b, j * 3 + i, none⟩ (fun _ _ => .inl hi)
                exact ⟨(o 0 (by omega)).trans (I2.out.1.c0 j (by omega)), (o 1 (by omega)).trans (I2.out.1.c1 j (by omega)), (o 2 (by omega)).trans (I2.out.1.c2 j (by omega))⟩)
              rw [hlen] at hg
              exact ⟨kk, rfl, hlen.symm, hg, I2.out.2.1.trans (below_setCells base b HB.out vs _ _)⟩
        | false =>
          rw [hq] at tt
          have HQ := Lib.hid (eqW_not.1 hq)
          clear hq
          go_wp2
          go_region
          go_wp2
          go_roundw
          case rel => exact ⟨k + 1, q + 1, by omega, by omega, by go_num, rfl, Lib.hid (fun j hj => by
            by_cases e : j = k
            · subst e; exact Go.Lib.keeps_pos (by rw [BX.out, BY.out]; exact HQ.out)
            · exact A.out j (by omega))⟩
          case measure => simp [intOf]; omega
      · have ej : k = d.size := by omega
        subst ej
        obtain ⟨e1, e2⟩ := HALL.out A.out q
        have E1 := Lib.hid e1
        have E2 := Lib.hid e2
        clear e1 e2
        go_wp2
        go_ret
        exact ⟨d.size, rfl, E1.out.symm, E2.out, below_drewN (Below.refl _ _) q⟩
end Go.Proofs.Ytjojhoaienjjeaa
/- Walks: values.Compare once more: what it leaves is its world with blocks behind. -/
namespace Go.Proofs.Ytjojhoaienjjeaa
open Go.RowKit
set_option linter.unusedVariables false

/-- The two blocks in which two values lie; older blocks are as they were. -/
structure Bx2g (w W : World) (k n : Int) (s : ByteArray) (k' n' : Int) (s' : ByteArray) : Prop where
  gr : ∃ q os, W = Go.Sort.grow (w.drewN q) os
  r1 : Row W w.heap.size 38 #[.int .u8 k, .int .i64 n, .string s]
  r2 : Row W (w.heap.size + 1) 38 #[.int .u8 k', .int .i64 n', .string s']
section
variable {w W W' : World} {k n k' n' : Int} {s s' : ByteArray}
theorem Bx2g.new (w : World) (k n : Int) (s : ByteArray) (k' n' : Int) (s' : ByteArray) :
    Bx2g w ((w.alloc (.cells #[.int .u8 k, .int .i64 n, .string s] 38)).alloc (.cells #[.int .u8 k', .int .i64 n', .string s'] 38)) k n s k' n' s' :=
  ⟨⟨0, _, by rw [Go.Sort.alloc_eq_grow, Go.Sort.alloc_eq_grow, Go.Sort.grow_grow]; rfl⟩, (Row.new _ _ _).alloc _, by have := Row.new (w.alloc (.cells #[.int .u8 k, .int .i64 n, .string s] 38)) 38 #[.int .u8 k', .int .i64 n', .string s']; simpa using this⟩
theorem Bx2g.a0 (h : Bx2g w W k n s k' n' s') : W.cell? ⟨w.heap.size, 0, none⟩ = some (.int .u8 k) := by rw [h.r1.cell]; rfl
theorem Bx2g.a1 (h : Bx2g w W k n s k' n' s') : W.cell? ⟨w.heap.size, 1, none⟩ = some (.int .i64 n) := by rw [h.r1.cell]; rfl
theorem Bx2g.a2 (h : Bx2g w W k n s k' n' s') : W.cell? ⟨w.heap.size, 2, none⟩ = some (.string s) := by rw [h.r1.cell]; rfl
theorem Bx2g.b0 (h : Bx2g w W k n s k' n' s') : W.cell? ⟨w.heap.size + 1, 0, none⟩ = some (.int .u8 k') := by rw [h.r2.cell]; rfl
theorem Bx2g.b1 (h : Bx2g w W k n s k' n' s') : W.cell? ⟨w.heap.size + 1, 1, none⟩ = some (.int .i64 n') := by rw [h.r2.cell]; rfl
theorem Bx2g.b2 (h : Bx2g w W k n s k' n' s') : W.cell? ⟨w.heap.size + 1, 2, none⟩ = some (.string s') := by rw [h.r2.cell]; rfl
theorem Bx2g.lt (h : Bx2g w W k n s k' n' s') : w.heap.size + 1 < W.heap.size := h.r2.lt
theorem Bx2g.alloc (h : Bx2g w W k n s k' n' s') (o : Obj) : Bx2g w (W.alloc o) k n s k' n' s' := by
  obtain ⟨q, os, e⟩ := h.gr
  exact ⟨⟨q, os ++ #[o], by rw [Go.Sort.alloc_eq_grow, e, Go.Sort.grow_grow]⟩, h.r1.alloc _, h.r2.alloc _⟩
theorem Bx2g.drew (h : Bx2g w W k n s k' n' s') : Bx2g w W.drew k n s k' n' s' := by
  obtain ⟨q, os, e⟩ := h.gr
  exact ⟨⟨q + 1, os, by rw [e]; rfl⟩, h.r1, h.r2⟩
end

set_option maxHeartbeats 1000000 in
theorem compareV_g (k n : Int) (s : ByteArray) (k' n' : Int) (s' : ByteArray) (w : World) :
    Calls Try.prog 23 #[vV k n s, vV k' n' s'] w fun e w' => e = .returned (.int .i64 (cmpV k n (bls s) k' n' (bls s'))) ∧ ∃ q os, w' = Go.Sort.grow (w.drewN q) os := by
  go_enter Try.func23, Try.ntmps23
  go_wp2_with fail
  have hSc := (Bx2g.new w k n s k' n' s').drew
  refine wp_region_all (S := fun W => Bx2g w W k n s k' n' s') (by kernel_rfl) hSc (fun W0 hSc => ?_)
  refine held_take 0 ?_ rfl (by kernel_rfl) (by kernel_rfl) (by kernel_rfl) (fun _ _ _ h => h) (by rfl) ?_ hSc ?_
  rotate_left
  · (intro W hSW; have a0 := hSW.a0; have a1 := hSW.a1; have a2 := hSW.a2; have b0 := hSW.b0; have b1 := hSW.b1; have b2 := hSW.b2; go_simp; try rfl)
  try simp only [Act.put, List.setIfInBounds_toArray, List.set_cons_zero, List.set_cons_succ]
  refine held_take 1 ?_ rfl (by kernel_rfl) (by kernel_rfl) (by kernel_rfl) (fun _ _ _ h => h) (by rfl) ?_ hSc ?_
  rotate_left
  · (intro W hSW; have a0 := hSW.a0; have a1 := hSW.a1; have a2 := hSW.a2; have b0 := hSW.b0; have b1 := hSW.b1; have b2 := hSW.b2; go_simp; try rfl)
  try simp only [Act.put, List.setIfInBounds_toArray, List.set_cons_zero, List.set_cons_succ]
  refine held_take 2 ?_ rfl (by kernel_rfl) (by kernel_rfl) (by kernel_rfl) (fun _ _ _ h => h) (by rfl) ?_ hSc ?_
  rotate_left
  · (intro W hSW; have a0 := hSW.a0; have a1 := hSW.a1; have a2 := hSW.a2; have b0 := hSW.b0; have b1 := hSW.b1; have b2 := hSW.b2; go_simp; try rfl)
  try simp only [Act.put, List.setIfInBounds_toArray, List.set_cons_zero, List.set_cons_succ]
  refine held_take 3 ?_ rfl (by kernel_rfl) (by kernel_rfl) (by kernel_rfl) (fun _ _ _ h => h) (by rfl) ?_ hSc ?_
  rotate_left
  · (intro W hSW; have a0 := hSW.a0; have a1 := hSW.a1; have a2 := hSW.a2; have b0 := hSW.b0; have b1 := hSW.b1; have b2 := hSW.b2; go_simp; try rfl)
  try simp only [Act.put, List.setIfInBounds_toArray, List.set_cons_zero, List.set_cons_succ]
  refine held_take 5 ?_ rfl (by kernel_rfl) (by kernel_rfl) (by kernel_rfl) (fun _ _ _ h => h) (by rfl) ?_ hSc ?_
  rotate_left
  · (intro W hSW; have a0 := hSW.a0; have a1 := hSW.a1; have a2 := hSW.a2; have b0 := hSW.b0; have b1 := hSW.b1; have b2 := hSW.b2; go_simp; try rfl)
  try simp only [Act.put, List.setIfInBounds_toArray, List.set_cons_zero, List.set_cons_succ]
  refine held_take 6 ?_ rfl (by kernel_rfl) (by kernel_rfl) (by kernel_rfl) (fun _ _ _ h => h) (by rfl) ?_ hSc ?_
  rotate_left
  · (intro W hSW; have a0 := hSW.a0; have a1 := hSW.a1; have a2 := hSW.a2; have b0 := hSW.b0; have b1 := hSW.b1; have b2 := hSW.b2; go_simp; try rfl)
  try simp only [Act.put, List.setIfInBounds_toArray, List.set_cons_zero, List.set_cons_succ]
  refine held_take 7 ?_ rfl (by kernel_rfl) (by kernel_rfl) (by kernel_rfl) (fun _ _ _ h => h) (by rfl) ?_ hSc ?_
  rotate_left
  · (intro W hSW; have a0 := hSW.a0; have a1 := hSW.a1; have a2 := hSW.a2; have b0 := hSW.b0; have b1 := hSW.b1; have b2 := hSW.b2; go_simp; try rfl)
  try simp only [Act.put, List.setIfInBounds_toArray, List.set_cons_zero, List.set_cons_succ]
  refine held_take 8 ?_ rfl (by kernel_rfl) (by kernel_rfl) (by kernel_rfl) (fun _ _ _ h => h) (by rfl) ?_ hSc ?_
  rotate_left
  · (intro W hSW; have a0 := hSW.a0; have a1 := hSW.a1; have a2 := hSW.a2; have b0 := hSW.b0; have b1 := hSW.b1; have b2 := hSW.b2; go_simp; try rfl)
  try simp only [Act.put, List.setIfInBounds_toArray, List.set_cons_zero, List.set_cons_succ]
  refine held_take 10 ?_ rfl (by kernel_rfl) (by kernel_rfl) (by kernel_rfl) (fun _ _ _ h => h) (by rfl) ?_ hSc ?_
  rotate_left
  · (intro W hSW; have a0 := hSW.a0; have a1 := hSW.a1; have a2 := hSW.a2; have b0 := hSW.b0; have b1 := hSW.b1; have b2 := hSW.b2; go_simp; try rfl)
  try simp only [Act.put, List.setIfInBounds_toArray, List.set_cons_zero, List.set_cons_succ]
  refine held_take 11 ?_ rfl (by kernel_rfl) (by kernel_rfl) (by kernel_rfl) (fun _ _ _ h => h) (by rfl) ?_ hSc ?_
  rotate_left
  · (intro W hSW; have a0 := hSW.a0; have a1 := hSW.a1; have a2 := hSW.a2; have b0 := hSW.b0; have b1 := hSW.b1; have b2 := hSW.b2; go_simp; try rfl)
  try simp only [Act.put, List.setIfInBounds_toArray, List.set_cons_zero, List.set_cons_succ]
  refine held_take 12 ?_ rfl (by kernel_rfl) (by kernel_rfl) (by kernel_rfl) (fun _ _ _ h => h) (by rfl) ?_ hSc ?_
  rotate_left
  · (intro W hSW; have a0 := hSW.a0; have a1 := hSW.a1; have a2 := hSW.a2; have b0 := hSW.b0; have b1 := hSW.b1; have b2 := hSW.b2; go_simp; try rfl)
  try simp only [Act.put, List.setIfInBounds_toArray, List.set_cons_zero, List.set_cons_succ]
  refine held_take 13 ?_ rfl (by kernel_rfl) (by kernel_rfl) (by kernel_rfl) (fun _ _ _ h => h) (by rfl) ?_ hSc ?_
  rotate_left
  · (intro W hSW; have a0 := hSW.a0; have a1 := hSW.a1; have a2 := hSW.a2; have b0 := hSW.b0; have b1 := hSW.b1; have b2 := hSW.b2; go_simp; try rfl)
  try simp only [Act.put, List.setIfInBounds_toArray, List.set_cons_zero, List.set_cons_succ]
  refine held_next 4 rfl (by kernel_rfl) (by rfl) ?_
  go_simp
  refine (cmp8_any _ _ _).mono ?_
  rintro e _ ⟨rfl, rfl⟩
  refine ⟨fun W => Bx2g w W k n s k' n' s', fun W hW => hW, hSc, ?_⟩
  try simp only [Act.put, List.setIfInBounds_toArray, List.set_cons_zero, List.set_cons_succ]
  refine held_next 9 rfl (by kernel_rfl) (by rfl) ?_
  go_simp
  refine (cmp64_any _ _ _).mono ?_
  rintro e _ ⟨rfl, rfl⟩
  refine ⟨fun W => Bx2g w W k n s k' n' s', fun W hW => hW, hSc, ?_⟩
  try simp only [Act.put, List.setIfInBounds_toArray, List.set_cons_zero, List.set_cons_succ]
  refine held_next 14 rfl (by kernel_rfl) (by rfl) ?_
  go_simp
  refine (compareS_any _ _ _).mono ?_
  rintro e _ ⟨rfl, rfl⟩
  refine ⟨fun W => Bx2g w W k n s k' n' s', fun W hW => hW, hSc, ?_⟩
  try simp only [Act.put, List.setIfInBounds_toArray, List.set_cons_zero, List.set_cons_succ]
  refine held_next 15 rfl (by kernel_rfl) (by rfl) ?_
  go_simp
  have hSd := hSc.alloc (.cells #[.int .i64 (cmpI k k'), .int .i64 (cmpI n n'), .int .i64 (cmpB (bls s) (bls s'))] 3)
  refine ⟨fun W => Bx2g w W k n s k' n' s', fun W hW => hW, hSd, ?_⟩
  clear hSc 
  have hSc := hSd
  clear hSd
  try simp only [Act.put, List.setIfInBounds_toArray, List.set_cons_zero, List.set_cons_succ]
  refine held_next 16 rfl (by kernel_rfl) (by rfl) ?_
  go_simp
  refine (or_any _ (cmpI k k') (cmpI n n') (cmpB (bls s) (bls s')) _ (by rw [(Row.new _ _ _).cell]; rfl) (by rw [(Row.new _ _ _).cell]; rfl) (by rw [(Row.new _ _ _).cell]; rfl)).mono ?_
  rintro e _ ⟨rfl, rfl⟩
  refine ⟨fun W => Bx2g w W k n s k' n' s', fun W hW => hW, hSc, ?_⟩
  try simp only [Act.put, List.setIfInBounds_toArray, List.set_cons_zero, List.set_cons_succ]
  refine held_next 17 rfl (by kernel_rfl) (by rfl) ?_
  go_simp
  refine ⟨fun W => Bx2g w W k n s k' n' s', fun W hW => hW, hSc, ?_⟩
  refine wpAnyH_done (by kernel_rfl) ?_ _
  go_wp2
  go_ret
  exact ⟨rfl, hSc.gr⟩
end Go.Proofs.Ytjojhoaienjjeaa
/- The laying of slices.SortFunc at values: which of the program's functions and types stand for those of the library's contract; each fact by the kernel. Printed by program. -/
namespace Go.Proofs.Ytjojhoaienjjeaa
open Go.Shelf
def sortV_ren : Go.Shelf.Ren := ⟨fun | 6 => 51 | 15 => 72 | 14 => 71 | 28 => 89 | 29 => 90 | 20 => 81 | 21 => 82 | 22 => 83 | 23 => 84 | 24 => 85 | 25 => 86 | 26 => 87 | 27 => 88 | 46 => 101 | 47 => 102 | 48 => 103 | 49 => 104 | 50 => 105 | 57 => 107 | n => n, fun | 22 => 22 | 24 => 38 | 25 => 55 | 3 => 3 | 39 => 104 | 0 => 0 | 53 => 73 | 55 => 88 | 4 => 4 | 46 => 113 | 45 => 112 | 50 => 42 | 5 => 5 | 9 => 9 | 66 => 130 | 70 => 133 | 76 => 136 | 77 => 137 | n => n, fun | n => n⟩
theorem sortV : Go.Proofs.SlLaysF0.n6 Try.prog sortV_ren := {
  mixed := by kernel_rfl
  f6 := ⟨Try.f51.name, by decide, Try.func51.trans (congrArg some (by kernel_rfl))⟩
  f14 := ⟨Try.f71.name, by decide, Try.func71.trans (congrArg some (by kernel_rfl))⟩
  f15 := Try.func72.trans (congrArg some (by kernel_rfl))
  f20 := ⟨Try.f81.name, by decide, Try.func81.trans (congrArg some (by kernel_rfl))⟩
  f21 := ⟨Try.f82.name, by decide, Try.func82.trans (congrArg some (by kernel_rfl))⟩
  f22 := ⟨Try.f83.name, by decide, Try.func83.trans (congrArg some (by kernel_rfl))⟩
  f23 := ⟨Try.f84.name, by decide, Try.func84.trans (congrArg some (by kernel_rfl))⟩
  f24 := ⟨Try.f85.name, by decide, Try.func85.trans (congrArg some (by kernel_rfl))⟩
  f25 := ⟨Try.f86.name, by decide, Try.func86.trans (congrArg some (by kernel_rfl))⟩
  f26 := ⟨Try.f87.name, by decide, Try.func87.trans (congrArg some (by kernel_rfl))⟩
  f27 := ⟨Try.f88.name, by decide, Try.func88.trans (congrArg some (by kernel_rfl))⟩
  f28 := Try.func89.trans (congrArg some (by kernel_rfl))
  f29 := Try.func90.trans (congrArg some (by kernel_rfl))
  f46 := ⟨Try.f101.name, by decide, Try.func101.trans (congrArg some (by kernel_rfl))⟩
  f47 := Try.func102.trans (congrArg some (by kernel_rfl))
  f48 := Try.func103.trans (congrArg some (by kernel_rfl))
  f49 := ⟨Try.f104.name, by decide, Try.func104.trans (congrArg some (by kernel_rfl))⟩
  f50 := ⟨Try.f105.name, by decide, Try.func105.trans (congrArg some (by kernel_rfl))⟩
  f57 := ⟨Try.f107.name, by decide, Try.func107.trans (congrArg some (by kernel_rfl))⟩
  t0 := Try.underlying0
  a0 := Try.isAgg0
  z0 := Try.sizeOf0
  v0 := Try.zeroValue0
  t3 := Try.underlying3
  a3 := Try.isAgg3
  z3 := Try.sizeOf3
  v3 := Try.zeroValue3
  t4 := Try.underlying4
  a4 := Try.isAgg4
  z4 := Try.sizeOf4
  v4 := Try.zeroValue4
  t5 := Try.underlying5
  a5 := Try.isAgg5
  z5 := Try.sizeOf5
  v5 := Try.zeroValue5
  t9 := Try.underlying9
  a9 := Try.isAgg9
  z9 := Try.sizeOf9
  v9 := Try.zeroValue9
  t22 := Try.underlying22
  a22 := Try.isAgg22
  z22 := Try.sizeOf22
  v22 := Try.zeroValue22
  t25 := Try.underlying55
  a25 := Try.isAgg55
  z25 := Try.sizeOf55
  v25 := Try.zeroValue55
  t39 := Try.underlying104
  a39 := Try.isAgg104
  z39 := Try.sizeOf104
  v39 := Try.zeroValue104
  t45 := Try.underlying112
  a45 := Try.isAgg112
  z45 := Try.sizeOf112
  v45 := Try.zeroValue112
  t46 := Try.underlying113
  a46 := Try.isAgg113
  z46 := Try.sizeOf113
  v46 := Try.zeroValue113
  t50 := Try.underlying42
  a50 := Try.isAgg42
  z50 := Try.sizeOf42
  v50 := Try.zeroValue42
  t53 := Try.underlying73
  a53 := Try.isAgg73
  z53 := Try.sizeOf73
  v53 := Try.zeroValue73
  t55 := Try.underlying88
  a55 := Try.isAgg88
  z55 := Try.sizeOf88
  v55 := Try.zeroValue88
  t66 := Try.underlying130
  a66 := Try.isAgg130
  z66 := Try.sizeOf130
  v66 := Try.zeroValue130
  t70 := Try.underlying133
  a70 := Try.isAgg133
  z70 := Try.sizeOf133
  v70 := Try.zeroValue133
  t76 := Try.underlying136
  a76 := Try.isAgg136
  z76 := Try.sizeOf136
  v76 := Try.zeroValue136
  t77 := Try.underlying137
  a77 := Try.isAgg137
  z77 := Try.sizeOf137
  v77 := Try.zeroValue137 }
end Go.Proofs.Ytjojhoaienjjeaa
/- Walks: SortFunc of values; distinct. -/
namespace Go.Proofs.Ytjojhoaienjjeaa
open Go.RowKit
set_option linter.unusedVariables false

theorem ltW (x y : VV) : Go.Proofs.ltOf cmpW x y = decide (cmpW x y < 0) := rfl
theorem swoW : Go.Sort.SWO (Go.Proofs.ltOf cmpW) where
  irrefl x := by rw [ltW, cmpW_self]; rfl
  trans x y z h1 h2 := by
    rw [ltW, decide_eq_true_eq] at *
    exact cmpW_lt h1 (by omega)
  ntrans x y z h1 h2 := by
    rw [ltW, decide_eq_false_iff_not] at *
    have t1 := cmpW_turn x y
    have t2 := cmpW_turn y z
    have t3 := cmpW_turn x z
    have := (cmpW_over z y x (by omega) (by omega)).1
    omega
theorem heap_sortV (w : World) (blk off n : Nat) (d : Array VV) (os : Array Obj) (j : Nat) (hj : j < w.heap.size) (hne : j ≠ blk) : (Go.Proofs.sortWorldK eV.cs 3 w blk off n d os).heap[j]? = w.heap[j]? := by
  unfold Go.Proofs.sortWorldK Go.Sort.putRowK Go.Sort.putRow Go.Sort.mapBlock Go.Sort.grow Go.Sort.ahead
  show (w.heap.modify blk _ ++ os)[j]? = _
  rw [Array.getElem?_append_left (by simpa using hj), Array.getElem?_modify, if_neg (fun e => hne e.symm)]
theorem size_sortV (w : World) (blk off n : Nat) (d : Array VV) (os : Array Obj) : w.heap.size ≤ (Go.Proofs.sortWorldK eV.cs 3 w blk off n d os).heap.size := by
  unfold Go.Proofs.sortWorldK Go.Sort.putRowK Go.Sort.putRow Go.Sort.mapBlock Go.Sort.grow Go.Sort.ahead
  simp
theorem lit3_at (x : VV) (i : Nat) (hi : i < (eV.cs x).length) (u : Value) (h : (eV.cs x)[i]? = some u) : (eV.cs x)[i]! = u := by
  rw [getElem!_def, h]
set_option maxHeartbeats 1000000 in
theorem sortV_c (b c : Nat) (l : List VV) (base : Nat) (w : World) (hl : l ≠ []) (hv : GwV eV w base (.slice (some ⟨b, 0, none⟩) l.length c) l) (hb : l.length ≤ 100000000) (hbase : base ≤ w.heap.size) :
    Calls Try.prog 51 #[.slice (some ⟨b, 0, none⟩) l.length c, .func (.func 23) #[] #[]] w fun e w' => e = .returned (.tuple #[]) ∧ ∃ d' : Array VV, d'.toList.Perm l ∧ (∀ i j, i < j → j < d'.size → cmpW d'[i]! d'[j]! ≤ 0) ∧ Rw w' b d' ∧ Below base w w' := by
  obtain ⟨b', c', hbe, hlc, hcm, hb1, hb2, hcell, hfz⟩ := hv.form hl
  injection hbe with hbe _ hce
  injection hbe with hbe
  injection hbe with hbe
  subst hbe hce
  have eg : ∀ args w, (callFunc 23 args).run Try.prog w = .ok (.enter 23 args) w := enters_of Try.func23 (by kernel_rfl) rfl
  have hH : Go.Sort.HoldsK eV.cs 3 w b 0 l.toArray := by
    intro j hj
    rw [Go.Sort.size_flatK, List.size_toArray] at hj
    rw [Go.Sort.get_flatK _ _ _ _ (by rw [List.size_toArray]; exact hj)]
    have hj2 : j / 3 < l.length := by omega
    have hg : l.toArray[j / 3]! = l[j / 3] := by rw [getElem!_pos l.toArray (j / 3) (by rw [List.size_toArray]; exact hj2)]; simp
    rw [hg, Nat.zero_add]
    refine ⟨?_, hfz j⟩
    have hm3 : j % 3 < (eV.cs l[j / 3]).length := Nat.mod_lt j (by decide : 3 > 0)
    obtain ⟨u, hu⟩ : ∃ u, (eV.cs l[j / 3])[j % 3]? = some u := ⟨_, List.getElem?_eq_getElem hm3⟩
    have hc := hcell (j / 3) _ (List.getElem?_eq_getElem hj2) (j % 3) u hu
    have e : eV.n * (j / 3) + j % 3 = j := Nat.div_add_mod j 3
    rw [e] at hc
    rw [hc, lit3_at _ _ hm3 _ hu]
    rfl
  have hcon := Go.Proofs.AnyQ.slices_SortFunc sortV 3 Try.isAgg38 Try.sizeOf38 eV.cs (fun _ => rfl) (fun x v hv => eV.one x v hv) cmpW swoW 23 #[] b 0 c l.toArray w eg (fun _ _ _ _ x y => compareV_g x.k x.n x.s y.k y.n y.s _) hH hb2 (by rw [List.size_toArray]; omega)
  rw [List.size_toArray] at hcon
  refine hcon.mono ?_
  rintro e w' ⟨rfl, d', n, os, hp, hs, rfl⟩
  have hsz : d'.size = l.length := by rw [hp.1, List.size_toArray]
  have hH' := Go.Proofs.holdsK_sortWorldK_c eV.cs 3 w b 0 l.toArray d' n os hH hb2 hp.1
  have hws := size_sortV w b 0 n d' os
  refine ⟨rfl, d', ?_, ?_, ?_, ⟨rfl, rfl, rfl, hws, fun k hk => heap_sortV w b 0 n d' os k (by omega) (by omega)⟩⟩
  · have h3 := hp.2.2
    rw [show l.length = d'.size from hsz.symm] at h3
    simp at h3
    rw [hsz, List.take_length] at h3
    exact h3
  · intro i j hij hj
    have := hs i j (Nat.zero_le _) hij (by rw [← hsz]; exact hj)
    rw [ltW, decide_eq_false_iff_not] at this
    have t := cmpW_turn d'[j]! d'[i]!
    omega
  · have at_ : ∀ j i, j < d'.size → i < 3 → (Go.Proofs.sortWorldK eV.cs 3 w b 0 n d' os).cell? ⟨b, j * 3 + i, none⟩ = some (eV.cs d'[j]!)[i]! := by
      intro j i hj hi
      have c0 := (hH' (3 * j + i) (by rw [Go.Sort.size_flatK]; omega)).1
      rw [Go.Sort.get_flatK _ _ _ _ (by omega), show (3 * j + i) / 3 = j by omega, show (3 * j + i) % 3 = i by omega, Nat.zero_add, show 3 * j + i = j * 3 + i by omega] at c0
      exact c0
    exact ⟨fun j hj => at_ j 0 hj (by omega), fun j hj => at_ j 1 hj (by omega), fun j hj => at_ j 2 hj (by omega), fun o ho => by
      have := (hH' o (by rw [Go.Sort.size_flatK]; omega)).2
      rwa [Nat.zero_add] at this, Nat.lt_of_lt_of_le hb2 hws⟩
/-- What stands in a row is kept of it. -/
theorem cut_mem (d : Array VV) (x : VV) : x ∈ Go.Lib.compactUpTo d d.size ↔ x ∈ d.toList := by
  unfold Go.Lib.compactUpTo
  rw [List.mem_map]
  constructor
  · rintro ⟨j, hj, rfl⟩
    have hj2 : j < d.size := List.mem_range.1 (List.mem_filter.1 hj).1
    rw [getElem!_pos d j hj2]
    simp
  · intro hx
    obtain ⟨j, hj⟩ := List.mem_iff_getElem?.1 hx
    have hjl : j < d.size := by have := (List.getElem?_eq_some_iff.1 hj).1; simpa using this
    have hg : d[j]! = x := by
      rw [getElem!_pos d j hjl]
      have := (List.getElem?_eq_some_iff.1 hj).2
      simpa using this
    subst hg
    clear hx hj
    induction j with
    | zero => exact ⟨0, List.mem_filter.2 ⟨List.mem_range.2 hjl, Go.Lib.keeps_lt_one d 0 (by omega)⟩, rfl⟩
    | succ j ih =>
      cases hk : Go.Lib.keeps d (j + 1) with
      | true => exact ⟨j + 1, List.mem_filter.2 ⟨List.mem_range.2 hjl, hk⟩, rfl⟩
      | false =>
        have he : d[j + 1]! = d[j]! := by
          unfold Go.Lib.keeps at hk
          have := of_decide_eq_false hk
          simp at this
          exact this
        rw [he]
        exact ih (by omega)
theorem cut_rise (d : Array VV) (h : ∀ i j, i < j → j < d.size → cmpW d[i]! d[j]! ≤ 0) : rise (Go.Lib.compactUpTo d d.size) := by
  unfold Go.Lib.compactUpTo rise
  rw [List.pairwise_map]
  have hp : ((List.range d.size).filter (Go.Lib.keeps d)).Pairwise (· < ·) := List.Pairwise.filter _ List.pairwise_lt_range
  refine hp.imp_of_mem ?_
  intro i j hi hj hij
  have hj2 := List.mem_filter.1 hj
  have hjd := List.mem_range.1 hj2.1
  have hne : d[j]! ≠ d[j - 1]! := by
    have := hj2.2
    unfold Go.Lib.keeps at this
    rcases of_decide_eq_true this with e | e
    · omega
    · exact e
  have h1 : cmpW d[j - 1]! d[j]! ≤ 0 := h (j - 1) j (by omega) hjd
  have h2 : cmpW d[j - 1]! d[j]! ≠ 0 := fun e => hne (cmpW_zero.1 e).symm
  by_cases e : i = j - 1
  · rw [e]; omega
  · exact cmpW_lt' (h i (j - 1) (by omega) (by omega)) (by omega)
theorem cut_dic {d : Array VV} {l : List VV} (hp : d.toList.Perm l) (h : ∀ i j, i < j → j < d.size → cmpW d[i]! d[j]! ≤ 0) : Go.Lib.compactUpTo d d.size = dicV l :=
  rise_ext _ _ (cut_rise d h) (dicV_rise l) fun x => by rw [cut_mem, dicV_mem]; exact hp.mem_iff

set_option maxHeartbeats 400000 in
theorem compact_none (A : Option Addr) (c : Nat) (w : World) :
    Calls Try.prog 52 #[.slice A 0 c] w fun e w' => e = .returned (.slice A 0 c) ∧ w' = w := by
  go_enter Try.func52, Try.ntmps52
  go_wp2
  go_ret
  exact ⟨rfl, rfl⟩
set_option maxHeartbeats 1000000 in
theorem distinct_any (A : Option Addr) (d : Nat) (l : List VV) (w : World) (hG : GsV eV w 0 w.heap.size (.slice A l.length d) l) (hl : l.length ≤ 100000) :
    Calls Try.prog 28 #[.slice A l.length d] w fun e w' => ∃ A' d', e = .returned (.slice A' (dicV l).length d') ∧ GsV eV w' w.heap.size w'.heap.size (.slice A' (dicV l).length d') (dicV l) ∧ Below w.heap.size w w' := by
  have HC := Lib.hid (cloneV_any _ l 0 w hG (by omega))
  clear hG
  by_cases h0 : l = []
  · subst h0
    go_enter Try.func28, Try.ntmps28
    go_wp2_with (go_at_call 30; refine HC.out.mono ?_; rintro e w1 ⟨v1, rfl, o1, b1⟩; obtain ⟨A1, d1, rfl, z1, z2, z3, -⟩ := o1.sl; have O1 := Lib.hid o1; have B1 := Lib.hid b1; have Z1 := Lib.hid z1; have Z3 := Lib.hid z3; clear o1 b1 z1 z2 z3; go_wp2_with (first
      | (go_at_call 51; refine (Go.Proofs.AnyF.slices_SortFunc_none { sortV with } A1 d1 _ w1).mono ?_; rintro e w2 ⟨rfl, hz⟩; have hz := hz.symm; subst hz)
      | (go_at_call 52; refine (compact_none A1 d1 w1).mono ?_; rintro e w2 ⟨rfl, hz⟩; have hz := hz.symm; subst hz)))
    go_ret
    exact ⟨A1, d1, rfl, ⟨A1, d1, rfl, Z1.out, Nat.zero_le _, Z3.out, fun h => absurd rfl h⟩, B1.out⟩
  · have HL := Lib.hid hl
    go_enter Try.func28, Try.ntmps28
    go_wp2_with (go_at_call 30; refine HC.out.mono ?_; rintro e w1 ⟨v1, rfl, o1, b1⟩; have B1 := Lib.hid b1; clear b1; obtain ⟨b, c, hv, hlc, hcm, hb1, -, -, -⟩ := o1.form h0; subst hv; have HS := Lib.hid (sortV_c b c l w.heap.size w1 h0 o1 (by have := HL.out; omega) B1.out.size); have K1 := Lib.hid hlc; have K2 := Lib.hid hcm; have K3 := Lib.hid hb1; clear o1 hlc hcm hb1; obtain ⟨n, hn⟩ : ∃ n, l.length = n := ⟨_, rfl⟩; have HN := Lib.hid hn; rw [hn] at HS ⊢; clear hn hl; go_wp2_with (go_at_call 51; refine HS.out.mono ?_; rintro e w2 ⟨rfl, d', hp, hs, hr, b2⟩; have HSZ := Lib.hid (show d'.size = n by rw [← HN.out, ← hp.length_eq, Array.length_toList]); have HD := Lib.hid (cut_dic hp hs); have B2 := Lib.hid (B1.out.trans b2); have HCM := Lib.hid (compactV_any b c w.heap.size d' w2 hr (by rw [HSZ.out, ← HN.out]; exact K1.out) K2.out K3.out B2.out.size); rw [HD.out, HSZ.out] at HCM; clear hp hs hr b2; go_wp2_with (go_at_call 52; refine HCM.out.mono ?_; rintro e w3 ⟨m, rfl, hm, g3, b3⟩; have HM := Lib.hid hm; have G3 := Lib.hid g3; have B3 := Lib.hid (B2.out.trans b3); clear hm g3 b3)))
    go_ret
    exact ⟨some ⟨b, 0, none⟩, c, by rw [← HM.out]; rfl, by rw [← HM.out]; exact G3.out, B3.out⟩
end Go.Proofs.Ytjojhoaienjjeaa
/- Walks: a region that draws its order and only reads, whose callees may lay blocks of their own: walked once. dict's list, Kind, Len; BinarySearchFunc. -/
namespace Go.Proofs.Ytjojhoaienjjeaa
open Go.RowKit
set_option linter.unusedVariables false

/-- A world in which all blocks of w are as in w. -/
structure Inw (w : World) where
  W : World
  b : Below w.heap.size w W
instance (w : World) : Inhabited (Inw w) := ⟨⟨w, Below.refl _ _⟩⟩
theorem wp_region_in {P : Program} {id : Nat} {Q : Exit → Act → World → Prop} {a : Act} {w : World} {l : List Oper} (hm : P.follows .mixedOrders = true) (hB : Region.lexB .any l.toArray = true)
    (h : wpQuiet P l.toArray (fun w' => ∃ x : Inw w, w' = x.W) (fun a' => ∀ w', (∃ x : Inw w, w' = x.W) → Q .normal a' w') l a) : (Code.region id l.toArray true).wp P Q a w :=
  wp_region_quiet (C := fun w' => ∃ x : Inw w, w' = x.W) hm hB ⟨⟨_, (Below.refl _ _).drew⟩, rfl⟩ (by simpa using h)
theorem Calls.in_of {P : Program} {f : FuncId} {args : Array Value} {w : World} (x : Inw w) {v : Value}
    (h : Calls P f args x.W fun e w' => e = .returned v ∧ Below x.W.heap.size x.W w') : Calls P f args x.W fun e w'' => e = .returned v ∧ ∃ y : Inw w, w'' = y.W :=
  h.mono fun _ w' ⟨he, hb⟩ => ⟨he, ⟨w', x.b.trans (hb.mono x.b.size)⟩, rfl⟩
theorem Calls.in_same {P : Program} {f : FuncId} {args : Array Value} {w : World} (x : Inw w) {v : Value}
    (h : Calls P f args x.W fun e w' => e = .returned v ∧ w' = x.W) : Calls P f args x.W fun e w'' => e = .returned v ∧ ∃ y : Inw w, w'' = y.W :=
  h.mono fun _ w' ⟨he, hb⟩ => ⟨he, x, hb⟩

/-- A dictionary at a pointer: none, or a block with a kind and a slice. -/
def DictAt (W : World) (p : Value) (k : Int) (v : Value) : Prop :=
  (p = .pointer none ∧ k = 0 ∧ v = .slice none 0 0) ∨ ∃ g, p = .pointer (some ⟨g, 0, none⟩) ∧ Row W g 46 #[.int .u8 k, v]
theorem DictAt.step {W W' : World} {p : Value} {k : Int} {v : Value} (h : DictAt W p k v) (b : Below W.heap.size W W') : DictAt W' p k v := by
  rcases h with h | ⟨g, e, r⟩
  · exact .inl h
  · exact .inr ⟨g, e, r.below b r.lt⟩
set_option maxHeartbeats 400000 in
theorem list_any (p : Value) (k : Int) (v : Value) (w : World) (h : DictAt w p k v) : Calls Try.prog 33 #[p] w fun e w' => e = .returned v ∧ w' = w := by
  rcases h with ⟨rfl, rfl, rfl⟩ | ⟨g, rfl, r⟩
  · go_enter Try.func33, Try.ntmps33
    go_wp2
    go_ret
    exact ⟨rfl, rfl⟩
  · have c1 := r.cell 1
    clear r
    go_enter Try.func33, Try.ntmps33
    go_wp2
    go_ret
    exact ⟨rfl, rfl⟩
set_option maxHeartbeats 400000 in
theorem kind_any (p : Value) (k : Int) (v : Value) (w : World) (h : DictAt w p k v) : Calls Try.prog 21 #[p] w fun e w' => e = .returned (.int .u8 k) ∧ w' = w := by
  rcases h with ⟨rfl, rfl, rfl⟩ | ⟨g, rfl, r⟩
  · go_enter Try.func21, Try.ntmps21
    go_wp2
    go_ret
    exact ⟨rfl, rfl⟩
  · have c0 := r.cell 0
    clear r
    go_enter Try.func21, Try.ntmps21
    go_wp2
    go_ret
    exact ⟨rfl, rfl⟩
set_option maxHeartbeats 400000 in
theorem len_any (p : Value) (k : Int) (A : Option Addr) (n d : Nat) (w : World) (h : DictAt w p k (.slice A n d)) : Calls Try.prog 20 #[p] w fun e w' => e = .returned (.int .i64 n) ∧ w' = w := by
  have HC := Lib.hid (list_any p k _ w h)
  clear h
  go_enter Try.func20, Try.ntmps20
  go_wp2_with (go_at_call 33; refine HC.out.mono ?_; rintro e w1 ⟨rfl, hz⟩; have hz := hz.symm; subst hz)
  go_ret
  exact ⟨rfl, rfl⟩

/-- Where a value would stand, and whether it is there. -/
def hasV (X : VV) (l : List VV) : Bool := decide (ltV X l < leV X l)
theorem has_at {l : List VV} (hr : rise l) {X Y : VV} (hY : l[ltV X l]? = some Y) : decide (cmpW Y X = 0) = hasV X l := by
  unfold hasV
  refine decide_eq_decide.2 ?_
  have h1 := ltV_iff hr X hY
  have h2 := leV_iff hr X hY
  have h3 := lt_leV hr X
  constructor
  · intro h; exact h2.2 (by omega)
  · intro h
    have h5 := h2.1 h
    have h6 : ¬ cmpW Y X < 0 := fun h => absurd (h1.2 h) (by omega)
    omega
theorem has_end {l : List VV} (X : VV) (h : ¬ ltV X l < l.length) : hasV X l = false := by
  unfold hasV
  have := leV_le X l
  exact decide_eq_false (by omega)
theorem half_lt {i j h : Nat} (e : (i + j) / 2 = h) (hl : i < j) : h < j := by omega
theorem half_ge {i j h : Nat} (e : (i + j) / 2 = h) (hl : i < j) : i ≤ h := by omega
theorem half_int {i j h : Nat} (e : (i + j) / 2 = h) : ((i : Int) + j) / 2 = h := by omega
theorem w64_nat {h n : Nat} (hn : n ≤ 1000000000) (e : h < n) : IntKind.i64.wrap (h : Int) = h := by rw [IntKind.wrap_i64]; omega
theorem sum_s {i j h n : Nat} (hn : n ≤ 1000000000) (h1 : i ≤ h) (h2 : h < j) (h3 : j ≤ n) : wrap64 ((i : Int) + j) = (i : Int) + j := by unfold wrap64; omega
theorem sum_u {i j h n : Nat} (hn : n ≤ 1000000000) (h1 : i ≤ h) (h2 : h < j) (h3 : j ≤ n) : IntKind.u64.wrap ((i : Int) + j) = (i : Int) + j := by rw [IntKind.wrap_u64]; omega
set_option maxHeartbeats 2000000 in
set_option maxRecDepth 100000 in
theorem search_any (A : Option Addr) (d : Nat) (l : List VV) (X : VV) (w : World) (hG : GsV eV w 0 w.heap.size (.slice A l.length d) l) (hr : rise l) (hn : l.length ≤ 1000000000) :
    Calls Try.prog 57 #[.slice A l.length d, vV X.k X.n X.s, .func (.func 23) #[] #[]] w fun e w' => e = .returned (.tuple #[.int .i64 (ltV X l : Int), .bool (hasV X l)]) ∧ Below w.heap.size w w' := by
  have HE : Enters Try.prog 23 := enters_of Try.func23 (by kernel_rfl) rfl
  unfold Enters at HE
  have HG := Lib.hid hG
  have HR := Lib.hid hr
  obtain ⟨T, hT⟩ : ∃ T, ltV X l = T := ⟨_, rfl⟩
  obtain ⟨H, hH⟩ : ∃ H, hasV X l = H := ⟨_, rfl⟩
  have HT := Lib.hid hT
  have HHV := Lib.hid hH
  have hTl : T ≤ l.length := hT ▸ ltV_le X l
  rw [hT, hH]
  clear hG hr hT hH
  have HW := Lib.hid (Bx1.new w X.k X.n X.s)
  go_enter Try.func57, Try.ntmps57
  go_wp2
  go_loopw [9, 10] (fun s9 s10 wr => ∃ i j : Nat, s9 = .int .i64 i ∧ s10 = .int .i64 j ∧ i ≤ T ∧ T ≤ j ∧ j ≤ l.length ∧ Hid (Bx1 w wr X.k X.n X.s)) (fun s9 s10 _ => (intOf s10).toNat - (intOf s9).toNat)
  case atStart => exact ⟨0, l.length, rfl, rfl, Nat.zero_le _, hTl, Nat.le_refl _, HW⟩
  case round =>
    obtain ⟨i, j, rfl, rfl, hi, hj, hjl, hI⟩ := hrel
    have HI := Lib.hid hI.out
    clear hI
    by_cases hlt : i < j
    · obtain ⟨h, hh⟩ : ∃ h, (i + j) / 2 = h := ⟨_, rfl⟩
      have hhj : h < j := half_lt hh hlt
      have hih : i ≤ h := half_ge hh hlt
      have hhl : h < l.length := Nat.lt_of_lt_of_le hhj hjl
      have hG := HG.out
      obtain ⟨b, boff, bc', e, hlc, hcm, -, bw, hc⟩ := hG.form (fun e => by have h := congrArg List.length e; simp only [List.length_nil] at h; omega)
      injection e with e1 e2 e3
      clear e2
      subst e1 e3
      obtain ⟨Y, hY⟩ : ∃ Y, l[h]? = some Y := ⟨_, List.getElem?_eq_getElem hhl⟩
      have hb1 : ∀ x : Inw wr, Below w.heap.size w x.W := fun x => HI.out.below.trans (x.b.mono HI.out.below.size)
      have q0 := fun x : Inw wr => ((hb1 x).cell (p := ⟨b, _, none⟩) bw).trans (vcell0 (hc h Y hY))
      have q1 := fun x : Inw wr => ((hb1 x).cell (p := ⟨b, _, none⟩) bw).trans (vcell1 (hc h Y hY))
      have q2 := fun x : Inw wr => ((hb1 x).cell (p := ⟨b, _, none⟩) bw).trans (vcell2 (hc h Y hY))
      have a0 := fun x : Inw wr => (HI.out.step x.b).a0
      have a1 := fun x : Inw wr => (HI.out.step x.b).a1
      have a2 := fun x : Inw wr => (HI.out.step x.b).a2
      have HC := Lib.hid (fun x : Inw wr => Calls.in_of x (compareV_any Y.k Y.n Y.s X.k X.n X.s x.W))
      have hiff := ltV_iff HR.out X hY
      rw [HT.out] at hiff
      have HIF := Lib.hid hiff
      obtain ⟨C, hC⟩ : ∃ C, cmpV Y.k Y.n (bls Y.s) X.k X.n (bls X.s) = C := ⟨_, rfl⟩
      rw [hC] at HC
      have HCC := Lib.hid (show cmpW Y X = C from hC)
      have w0 : wrap64 ((i : Int) + j) = (i : Int) + j := sum_s hn hih hhj hjl
      have w1 : IntKind.u64.wrap ((i : Int) + j) = (i : Int) + j := sum_u hn hih hhj hjl
      have w3 : ((i : Int) + j) / 2 = h := half_int hh
      have w4 : IntKind.i64.wrap (h : Int) = h := w64_nat hn hhl
      clear hc hG hY hb1 hiff hC hh
      cases hcm : decide (C < 0) with
      | true =>
        have HCM := Lib.hid (of_decide_eq_true hcm)
        go_wp2_with fail
        clear w0 w1 w3 w4
        refine wp_region_in (by kernel_rfl) (by kernel_rfl) ?_
        repeat (quiet_step (first | (go_at_call 23; exact HC.out _)))
        refine wpQuiet_nil ?_
        rintro _ ⟨x9, rfl⟩
        have HX9 := Lib.hid (HI.out.step x9.b)
        go_wp2
        go_roundw
        case rel => exact ⟨h + 1, j, by go_num, rfl, HIF.out.2 (by rw [HCC.out]; exact HCM.out), hj, hjl, HX9⟩
        case measure => simp [intOf]; omega
      | false =>
        have HCM := Lib.hid (of_decide_eq_false hcm)
        go_wp2_with fail
        clear w0 w1 w3 w4
        refine wp_region_in (by kernel_rfl) (by kernel_rfl) ?_
        repeat (quiet_step (first | (go_at_call 23; exact HC.out _)))
        refine wpQuiet_nil ?_
        rintro _ ⟨x9, rfl⟩
        have HX9 := Lib.hid (HI.out.step x9.b)
        go_wp2
        go_roundw
        case rel => exact ⟨i, h, rfl, by go_num, hi, Nat.le_of_not_lt (fun hl => absurd (HIF.out.1 hl) (by rw [HCC.out]; have := HCM.out; omega)), by omega, HX9⟩
        case measure => simp [intOf]; omega
    · have ei : i = T := by omega
      subst ei
      by_cases hil : i < l.length
      · have hG := HG.out
        obtain ⟨b, boff, bc', e, -, -, -, bw, hc⟩ := hG.form (fun e => by have h := congrArg List.length e; simp only [List.length_nil] at h; omega)
        injection e with e1 e2 e3
        clear e2
        subst e1 e3
        obtain ⟨Y, hY⟩ : ∃ Y, l[i]? = some Y := ⟨_, List.getElem?_eq_getElem (by omega)⟩
        have hb1 : ∀ x : Inw wr, Below w.heap.size w x.W := fun x => HI.out.below.trans (x.b.mono HI.out.below.size)
        have q0 := fun x : Inw wr => ((hb1 x).cell (p := ⟨b, _, none⟩) bw).trans (vcell0 (hc i Y hY))
        have q1 := fun x : Inw wr => ((hb1 x).cell (p := ⟨b, _, none⟩) bw).trans (vcell1 (hc i Y hY))
        have q2 := fun x : Inw wr => ((hb1 x).cell (p := ⟨b, _, none⟩) bw).trans (vcell2 (hc i Y hY))
        have a0 := fun x : Inw wr => (HI.out.step x.b).a0
        have a1 := fun x : Inw wr => (HI.out.step x.b).a1
        have a2 := fun x : Inw wr => (HI.out.step x.b).a2
        have HC := Lib.hid (fun x : Inw wr => Calls.in_of x (compareV_any Y.k Y.n Y.s X.k X.n X.s x.W))
        obtain ⟨C, hC⟩ : ∃ C, cmpV Y.k Y.n (bls Y.s) X.k X.n (bls X.s) = C := ⟨_, rfl⟩
        rw [hC] at HC
        have hC2 : cmpW Y X = C := hC
        have hHV : (C == 0) = H := by
          have hY2 := hY
          rw [← HT.out] at hY2
          have := has_at HR.out hY2
          rw [hC2, HHV.out] at this
          rw [← this]
          by_cases h : C = 0 <;> simp [h]
        have HHC := Lib.hid hHV
        have gi : decide ((i : Int) < (l.length : Int)) = true := decide_eq_true (by omega)
        clear hc hG hY hb1 hC hC2
        go_wp2_with fail
        refine wp_region_in (by kernel_rfl) (by kernel_rfl) ?_
        repeat (quiet_step (first | (go_at_call 23; exact HC.out _)))
        refine wpQuiet_nil ?_
        rintro _ ⟨x9, rfl⟩
        have HX9 := Lib.hid (HI.out.step x9.b)
        go_wp2
        go_ret2
        exact ⟨rfl, HX9.out.below⟩
      · have gi : decide ((i : Int) < (l.length : Int)) = false := decide_eq_false (by omega)
        have hHV : H = false := by rw [← HHV.out]; exact has_end X (by rw [HT.out]; exact hil)
        have HHC := Lib.hid hHV
        clear hHV
        go_wp2_with fail
        go_region
        go_wp2
        go_ret2
        exact ⟨by rw [HHC.out]; rfl, HI.out.below.drew⟩
end Go.Proofs.Ytjojhoaienjjeaa
namespace Go.Proofs.Ytjojhoaienjjeaa
open Go.RowKit
set_option linter.unusedVariables false

set_option maxHeartbeats 1000000 in
set_option maxRecDepth 100000 in
theorem first_any (p : Value) (k : Int) (A : Option Addr) (d : Nat) (l : List VV) (X : VV) (w : World) (hD : DictAt w p k (.slice A l.length d)) (hG : GsV eV w 0 w.heap.size (.slice A l.length d) l) (hr : rise l) (hn : l.length ≤ 1000000000) :
    Calls Try.prog 39 #[p, vV X.k X.n X.s] w fun e w' => e = .returned (.tuple #[.int .i64 (ltV X l : Int), .bool (hasV X l)]) ∧ Below w.heap.size w w' := by
  have HW := Lib.hid (Bx1.new w X.k X.n X.s)
  obtain ⟨W0, hW0⟩ : ∃ W0, W0 = w.alloc (.cells #[.int .u8 X.k, .int .i64 X.n, .string X.s] 38) := ⟨_, rfl⟩
  rw [← hW0] at HW
  have hL := fun x : Inw W0 => Calls.in_same x (list_any p k _ x.W (hD.step (HW.out.below.trans (x.b.mono HW.out.below.size))))
  have hS := fun x : Inw W0 => Calls.in_of x (search_any A d l X x.W (hG.step (HW.out.below.trans (x.b.mono HW.out.below.size))) hr hn)
  have HL := Lib.hid hL
  have HS := Lib.hid hS
  have a0 := fun x : Inw W0 => (HW.out.step x.b).a0
  have a1 := fun x : Inw W0 => (HW.out.step x.b).a1
  have a2 := fun x : Inw W0 => (HW.out.step x.b).a2
  clear hD hG hr hn hL hS
  generalize hasV X l = H at HS ⊢
  generalize ltV X l = T at HS ⊢
  go_enter Try.func39, Try.ntmps39
  go_wp2_with fail
  rw [← hW0]
  clear hW0
  refine wp_region_in (by kernel_rfl) (by kernel_rfl) ?_
  repeat (quiet_step (first | (go_at_call 33; exact HL.out _) | (go_at_call 57; exact HS.out _)))
  refine wpQuiet_nil ?_
  rintro _ ⟨x9, rfl⟩
  have HX9 := Lib.hid (HW.out.step x9.b)
  go_wp2
  go_ret2
  exact ⟨rfl, HX9.out.below⟩

set_option maxHeartbeats 1000000 in
theorem find_any (p : Value) (k : Int) (A : Option Addr) (d : Nat) (l : List VV) (X : VV) (w : World) (hD : DictAt w p k (.slice A l.length d)) (hG : GsV eV w 0 w.heap.size (.slice A l.length d) l) (hr : rise l) (hn : l.length ≤ 1000000000) :
    Calls Try.prog 18 #[p, vV X.k X.n X.s] w fun e w' => e = .returned (.tuple #[.int .i64 ((if hasV X l = true then ltV X l else 0 : Nat) : Int), .bool (hasV X l)]) ∧ Below w.heap.size w w' := by
  have HW := Lib.hid (Bx1.new w X.k X.n X.s)
  have HC := Lib.hid (fun W (b : Below w.heap.size w W) => first_any p k A d l X W (hD.step b) (hG.step b) hr hn)
  have a0 := HW.out.a0
  have a1 := HW.out.a1
  have a2 := HW.out.a2
  clear hD hG hr hn
  generalize ltV X l = T at HC ⊢
  generalize hasV X l = H at HC ⊢
  cases H with
  | true =>
    go_enter Try.func18, Try.ntmps18
    go_wp2_with (go_at_call 39; refine (HC.out _ HW.out.below).mono ?_; rintro e w1 ⟨rfl, b1⟩; have B1 := Lib.hid (HW.out.step b1); clear b1)
    go_ret2
    exact ⟨rfl, B1.out.below⟩
  | false =>
    go_enter Try.func18, Try.ntmps18
    go_wp2_with (go_at_call 39; refine (HC.out _ HW.out.below).mono ?_; rintro e w1 ⟨rfl, b1⟩; have B1 := Lib.hid (HW.out.step b1); clear b1)
    go_ret2
    exact ⟨rfl, B1.out.below⟩

/-- What span tells. -/
def spanI (l : List VV) (cmp : Int) (X : VV) : Int × Int × Bool :=
  if cmp = 1 then ((ltV X l : Int), (leV X l : Int), true) else if cmp = 3 then (0, (ltV X l : Int), true) else if cmp = 4 then (0, (leV X l : Int), true) else if cmp = 5 then ((leV X l : Int), (l.length : Int), true) else if cmp = 6 then ((ltV X l : Int), (l.length : Int), true) else (0, 0, false)
theorem behind_no {l : List VV} (hr : rise l) {X : VV} (h : hasV X l = false) : leV X l = ltV X l := by
  have := lt_leV hr X
  have h2 := of_decide_eq_false h
  omega
theorem behind_yes {l : List VV} (hr : rise l) {X : VV} (h : hasV X l = true) : leV X l = ltV X l + 1 := by
  have := lt_leV hr X
  have h2 := of_decide_eq_true h
  omega
theorem add1 {a n : Nat} (h : a + 1 ≤ n) (hn : n ≤ 1000000000) : IntKind.i64.wrap ((a : Int) + 1) = ((a + 1 : Nat) : Int) := by rw [IntKind.wrap_i64]; omega
set_option maxHeartbeats 4000000 in
set_option maxRecDepth 100000 in
theorem span_any (p : Value) (k : Int) (A : Option Addr) (d : Nat) (l : List VV) (cmp : Int) (X : VV) (w : World) (hD : DictAt w p k (.slice A l.length d)) (hG : GsV eV w 0 w.heap.size (.slice A l.length d) l) (hr : rise l) (hn : l.length ≤ 1000000000) :
    Calls Try.prog 36 #[p, .int .u8 cmp, vV X.k X.n X.s] w fun e w' => e = .returned (.tuple #[.int .i64 (spanI l cmp X).1, .int .i64 (spanI l cmp X).2.1, .bool (spanI l cmp X).2.2]) ∧ Below w.heap.size w w' := by
  have HW := Lib.hid (Bx1.new w X.k X.n X.s)
  have HC := Lib.hid (fun W (b : Below w.heap.size w W) => first_any p k A d l X W (hD.step b) (hG.step b) hr hn)
  have HN := Lib.hid (fun W (b : Below w.heap.size w W) => len_any p k A l.length d W (hD.step b))
  have a0 := HW.out.a0
  have a1 := HW.out.a1
  have a2 := HW.out.a2
  have hb := leV_le X l
  clear hD hG
  cases hH : hasV X l with
  | true =>
    have he := behind_yes hr hH
    have ha := add1 (a := ltV X l) (by omega) hn
    rw [hH] at HC
    obtain ⟨S, hS⟩ : ∃ S, spanI l cmp X = S := ⟨_, rfl⟩
    have hS2 := hS
    unfold spanI at hS
    rw [he] at hS
    rw [hS2]
    clear hS2 he hH hr hb hn
    generalize ltV X l = T at *
    obtain ⟨L, hL⟩ : ∃ L, l.length = L := ⟨_, rfl⟩
    rw [hL] at HN hS
    clear hL
    by_cases c1 : cmp = 1
    · subst c1
      rw [if_pos rfl] at hS
      subst hS
      go_enter Try.func36, Try.ntmps36
      go_wp2_with (first
        | (go_at_call 39; refine (HC.out _ HW.out.below).mono ?_; rintro e w1 ⟨rfl, b1⟩; have B1 := Lib.hid (HW.out.step b1); clear b1)
        | (go_at_call 20; refine (HN.out _ B1.out.below).mono ?_; rintro e w2 ⟨rfl, hz⟩; have hz := hz.symm; subst hz))
      go_ret3
      exact ⟨rfl, B1.out.below⟩
    · rw [if_neg c1] at hS
      have e1 : (cmp == 1) = false := by simp [c1]
      by_cases c3 : cmp = 3
      · subst c3
        rw [if_pos rfl] at hS
        subst hS
        clear e1 c1
        go_enter Try.func36, Try.ntmps36
        go_wp2_with (first
          | (go_at_call 39; refine (HC.out _ HW.out.below).mono ?_; rintro e w1 ⟨rfl, b1⟩; have B1 := Lib.hid (HW.out.step b1); clear b1)
          | (go_at_call 20; refine (HN.out _ B1.out.below).mono ?_; rintro e w2 ⟨rfl, hz⟩; have hz := hz.symm; subst hz))
        go_ret3
        exact ⟨rfl, B1.out.below⟩
      · rw [if_neg c3] at hS
        have e3 : (cmp == 3) = false := by simp [c3]
        by_cases c4 : cmp = 4
        · subst c4
          rw [if_pos rfl] at hS
          subst hS
          clear e1 e3 c1 c3
          go_enter Try.func36, Try.ntmps36
          go_wp2_with (first
            | (go_at_call 39; refine (HC.out _ HW.out.below).mono ?_; rintro e w1 ⟨rfl, b1⟩; have B1 := Lib.hid (HW.out.step b1); clear b1)
            | (go_at_call 20; refine (HN.out _ B1.out.below).mono ?_; rintro e w2 ⟨rfl, hz⟩; have hz := hz.symm; subst hz))
          go_ret3
          exact ⟨rfl, B1.out.below⟩
        · rw [if_neg c4] at hS
          have e4 : (cmp == 4) = false := by simp [c4]
          by_cases c5 : cmp = 5
          · subst c5
            rw [if_pos rfl] at hS
            subst hS
            clear e1 e3 e4 c1 c3 c4
            go_enter Try.func36, Try.ntmps36
            go_wp2_with (first
              | (go_at_call 39; refine (HC.out _ HW.out.below).mono ?_; rintro e w1 ⟨rfl, b1⟩; have B1 := Lib.hid (HW.out.step b1); clear b1)
              | (go_at_call 20; refine (HN.out _ B1.out.below).mono ?_; rintro e w2 ⟨rfl, hz⟩; have hz := hz.symm; subst hz))
            go_ret3
            exact ⟨rfl, B1.out.below⟩
          · rw [if_neg c5] at hS
            have e5 : (cmp == 5) = false := by simp [c5]
            by_cases c6 : cmp = 6
            · subst c6
              rw [if_pos rfl] at hS
              subst hS
              clear e1 e3 e4 e5 c1 c3 c4 c5
              go_enter Try.func36, Try.ntmps36
              go_wp2_with (first
                | (go_at_call 39; refine (HC.out _ HW.out.below).mono ?_; rintro e w1 ⟨rfl, b1⟩; have B1 := Lib.hid (HW.out.step b1); clear b1)
                | (go_at_call 20; refine (HN.out _ B1.out.below).mono ?_; rintro e w2 ⟨rfl, hz⟩; have hz := hz.symm; subst hz))
              go_ret3
              exact ⟨rfl, B1.out.below⟩
            · rw [if_neg c6] at hS
              have e6 : (cmp == 6) = false := by simp [c6]
              subst hS
              clear c1 c3 c4 c5 c6
              go_enter Try.func36, Try.ntmps36
              go_wp2_with (first
                | (go_at_call 39; refine (HC.out _ HW.out.below).mono ?_; rintro e w1 ⟨rfl, b1⟩; have B1 := Lib.hid (HW.out.step b1); clear b1)
                | (go_at_call 20; refine (HN.out _ B1.out.below).mono ?_; rintro e w2 ⟨rfl, hz⟩; have hz := hz.symm; subst hz))
              go_ret3
              exact ⟨rfl, B1.out.below⟩
  | false =>
    have he := behind_no hr hH
    rw [hH] at HC
    obtain ⟨S, hS⟩ : ∃ S, spanI l cmp X = S := ⟨_, rfl⟩
    have hS2 := hS
    unfold spanI at hS
    rw [he] at hS
    rw [hS2]
    clear hS2 he hH hr hb hn
    generalize ltV X l = T at *
    obtain ⟨L, hL⟩ : ∃ L, l.length = L := ⟨_, rfl⟩
    rw [hL] at HN hS
    clear hL
    by_cases c1 : cmp = 1
    · subst c1
      rw [if_pos rfl] at hS
      subst hS
      go_enter Try.func36, Try.ntmps36
      go_wp2_with (first
        | (go_at_call 39; refine (HC.out _ HW.out.below).mono ?_; rintro e w1 ⟨rfl, b1⟩; have B1 := Lib.hid (HW.out.step b1); clear b1)
        | (go_at_call 20; refine (HN.out _ B1.out.below).mono ?_; rintro e w2 ⟨rfl, hz⟩; have hz := hz.symm; subst hz))
      go_ret3
      exact ⟨rfl, B1.out.below⟩
    · rw [if_neg c1] at hS
      have e1 : (cmp == 1) = false := by simp [c1]
      by_cases c3 : cmp = 3
      · subst c3
        rw [if_pos rfl] at hS
        subst hS
        clear e1 c1
        go_enter Try.func36, Try.ntmps36
        go_wp2_with (first
          | (go_at_call 39; refine (HC.out _ HW.out.below).mono ?_; rintro e w1 ⟨rfl, b1⟩; have B1 := Lib.hid (HW.out.step b1); clear b1)
          | (go_at_call 20; refine (HN.out _ B1.out.below).mono ?_; rintro e w2 ⟨rfl, hz⟩; have hz := hz.symm; subst hz))
        go_ret3
        exact ⟨rfl, B1.out.below⟩
      · rw [if_neg c3] at hS
        have e3 : (cmp == 3) = false := by simp [c3]
        by_cases c4 : cmp = 4
        · subst c4
          rw [if_pos rfl] at hS
          subst hS
          clear e1 e3 c1 c3
          go_enter Try.func36, Try.ntmps36
          go_wp2_with (first
            | (go_at_call 39; refine (HC.out _ HW.out.below).mono ?_; rintro e w1 ⟨rfl, b1⟩; have B1 := Lib.hid (HW.out.step b1); clear b1)
            | (go_at_call 20; refine (HN.out _ B1.out.below).mono ?_; rintro e w2 ⟨rfl, hz⟩; have hz := hz.symm; subst hz))
          go_ret3
          exact ⟨rfl, B1.out.below⟩
        · rw [if_neg c4] at hS
          have e4 : (cmp == 4) = false := by simp [c4]
          by_cases c5 : cmp = 5
          · subst c5
            rw [if_pos rfl] at hS
            subst hS
            clear e1 e3 e4 c1 c3 c4
            go_enter Try.func36, Try.ntmps36
            go_wp2_with (first
              | (go_at_call 39; refine (HC.out _ HW.out.below).mono ?_; rintro e w1 ⟨rfl, b1⟩; have B1 := Lib.hid (HW.out.step b1); clear b1)
              | (go_at_call 20; refine (HN.out _ B1.out.below).mono ?_; rintro e w2 ⟨rfl, hz⟩; have hz := hz.symm; subst hz))
            go_ret3
            exact ⟨rfl, B1.out.below⟩
          · rw [if_neg c5] at hS
            have e5 : (cmp == 5) = false := by simp [c5]
            by_cases c6 : cmp = 6
            · subst c6
              rw [if_pos rfl] at hS
              subst hS
              clear e1 e3 e4 e5 c1 c3 c4 c5
              go_enter Try.func36, Try.ntmps36
              go_wp2_with (first
                | (go_at_call 39; refine (HC.out _ HW.out.below).mono ?_; rintro e w1 ⟨rfl, b1⟩; have B1 := Lib.hid (HW.out.step b1); clear b1)
                | (go_at_call 20; refine (HN.out _ B1.out.below).mono ?_; rintro e w2 ⟨rfl, hz⟩; have hz := hz.symm; subst hz))
              go_ret3
              exact ⟨rfl, B1.out.below⟩
            · rw [if_neg c6] at hS
              have e6 : (cmp == 6) = false := by simp [c6]
              subst hS
              clear c1 c3 c4 c5 c6
              go_enter Try.func36, Try.ntmps36
              go_wp2_with (first
                | (go_at_call 39; refine (HC.out _ HW.out.below).mono ?_; rintro e w1 ⟨rfl, b1⟩; have B1 := Lib.hid (HW.out.step b1); clear b1)
                | (go_at_call 20; refine (HN.out _ B1.out.below).mono ?_; rintro e w2 ⟨rfl, hz⟩; have hz := hz.symm; subst hz))
              go_ret3
              exact ⟨rfl, B1.out.below⟩

end Go.Proofs.Ytjojhoaienjjeaa
