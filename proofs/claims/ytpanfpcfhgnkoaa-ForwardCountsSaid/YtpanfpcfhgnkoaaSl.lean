/- Walks: whether an index tells these ids (told). -/
import Derived.Test.YtpanfpcfhgnkoaaSk
import Derived.Test.YtpanfpcfhgnkoaaRg
namespace Go.Proofs.Ytpanfpcfhgnkoaa
open Go.RowKit Go.Shelf
set_option linter.unusedVariables false

attribute [local go_sem] Oper.semAt_some

/-- A region that draws, walked in any world that meets S. -/
theorem wp_region_all {P : Program} {ops : Array Oper} {Q : Exit → Act → World → Prop} {S : World → Prop} {id : Nat} {a : Act} {w : World} (hm : P.follows .mixedOrders = true) (hS : S w.drew)
    (h : ∀ W, S W → wpAnyH P .any ops Q S ops.size (Array.replicate ops.size false) a W) : (Code.region id ops true).wp P Q a w :=
  wp_region_held_drew hm hS (fun h' => h _ h')
theorem run_eql_func_nil {P : Program} (w : World) (t : TypeId) (ps rs : Array TypeId) (v : Bool) (f : Fn) (a b : Array Value) (h : P.underlying t = some (.func ps rs v)) : (binOp .eql t (.func f a b) .nilFunc).run P w = .ok (.bool false) w := by
  have h2 : ∀ d : Nat, (Op.equalIn (d + 1) t (.func f a b) .nilFunc).run P w = .ok false w := fun d => by
    simp [Op.equalIn, run_underlying h]
  simp only [binOp]
  simp [Op.equal, Op.maxDepth, h2 9999]
/-- A piece of code that can't be left but by its end. -/
def onlyN (Q : Exit → Act → World → Prop) : Exit → Act → World → Prop
  | .normal, a, w => Q .normal a w
  | _, _, _ => False
theorem wp_only {P : Program} {c : Code} {Q : Exit → Act → World → Prop} {a : Act} {w : World} (h : c.wp P (onlyN Q) a w) : c.wp P Q a w :=
  Code.wp_mono (fun e a' w' he => by cases e <;> first | exact he | exact he.elim) h
/-- A pair has come that is not the next one. -/
def toldBad (l : List Int) (c : Code) (xs : List (Nat × Int)) : Prop := c = .ret ∧ ∃ ini x, xs = ini ++ [x] ∧ (x.1 ≠ ini.length ∨ l[ini.length]? ≠ some x.2)
theorem two_set {W : World} {a b : Nat} {t s : TypeId} {x y x' y' : Value} (ha : Row W a t #[x]) (hb : Row W b s #[y]) (hne : a ≠ b) :
    Row ((W.setCell ⟨b, 0, none⟩ y').setCell ⟨a, 0, none⟩ x') a t #[x'] ∧ Row ((W.setCell ⟨b, 0, none⟩ y').setCell ⟨a, 0, none⟩ x') b s #[y'] :=
  ⟨(ha.keep (Below.heap_setCell W ⟨b, 0, none⟩ _ _ hne)).set_ 0 x', (hb.set_ 0 y').keep (Below.heap_setCell _ ⟨a, 0, none⟩ _ _ (Ne.symm hne))⟩
theorem two_heap {W : World} {a b k : Nat} {x y : Value} (h1 : k ≠ a) (h2 : k ≠ b) : ((W.setCell ⟨b, 0, none⟩ y).setCell ⟨a, 0, none⟩ x).heap[k]? = W.heap[k]? :=
  (Below.heap_setCell _ ⟨a, 0, none⟩ _ _ h1).trans (Below.heap_setCell W ⟨b, 0, none⟩ _ _ h2)
theorem KeepsFrom.of_grownBy2 {W : World} {a b B : Nat} {x y : Value} (h1 : a < B) (h2 : b < B) : KeepsFrom B W ((W.setCell ⟨b, 0, none⟩ y).setCell ⟨a, 0, none⟩ x) :=
  (KeepsFrom.of_grownBy (grown_set W b 0 y) (fun j e => by injection e with e; omega)).trans (KeepsFrom.of_grownBy (grown_set _ a 0 x) (fun j e => by injection e with e; omega))
/-- What lies beside one another while the document's told asks. -/
structure Tl (w W : World) (A2 : Option Addr) (d2 : Nat) (zs : List Int) (id many : Int) (g : Nat) (A : Option Addr) (c : Nat) (u : World) (D : Nat) : Prop where
  m : IxM W g A c zs many
  gs : Gs eI W 0 W.heap.size (.slice A2 zs.length d2) zs
  r5 : Row W w.heap.size 22 #[.slice A2 zs.length d2]
  r7 : Row W (w.heap.size + 1) 3 #[.int .i64 id]
  r8 : ∃ b, Row W (w.heap.size + 1 + 1) 4 #[.bool b]
  n : Row W u.heap.size 3 #[.int .i64 (zs.length : Int)]
  k : Row W (u.heap.size + 1) 3 #[.int .i64 (cnt zs id zs.length : Int)]
  b : Below w.heap.size w W
  d : W.heap[D]? = some (.deferred (some []))
  lt : w.heap.size + 1 + 1 < D
  lu : w.heap.size + 1 + 1 < u.heap.size
section
variable {w W W' : World} {A2 : Option Addr} {d2 : Nat} {zs : List Int} {id many : Int} {g : Nat} {A : Option Addr} {c : Nat} {u : World} {D : Nat}
theorem Tl.step (h : Tl w W A2 d2 zs id many g A c u D) (b : Below W.heap.size W W') : Tl w W' A2 d2 zs id many g A c u D :=
  ⟨h.m.step b, h.gs.step b, h.r5.below b h.r5.lt, h.r7.below b h.r7.lt, let ⟨x, hx⟩ := h.r8; ⟨x, hx.below b hx.lt⟩, h.n.below b h.n.lt, h.k.below b h.k.lt, h.b.trans (b.mono h.b.size), keepD h.d b, h.lt, h.lu⟩
theorem Tl.drew (h : Tl w W A2 d2 zs id many g A c u D) : Tl w W.drew A2 d2 zs id many g A c u D := h.step (Below.refl _ _).drew
end
theorem Tl.put {w W : World} {A2 : Option Addr} {d2 : Nat} {zs : List Int} {id many : Int} {g : Nat} {A : Option Addr} {c : Nat} {u : World} {D : Nat} (h : Tl w W A2 d2 zs id many g A c u D) (hm : IxM w g A c zs many) (hG : Gs eI w 0 w.heap.size (.slice A2 zs.length d2) zs) (v : Bool) {b0 : Bool} (hb : Row W (w.heap.size + 1 + 1) 4 #[.bool b0]) : Tl w (W.setCell ⟨w.heap.size + 1 + 1, 0, none⟩ (.bool v)) A2 d2 zs id many g A c u D := by
  have hB : Below w.heap.size w (W.setCell ⟨w.heap.size + 1 + 1, 0, none⟩ (.bool v)) := h.b.setCell (p := ⟨w.heap.size + 1 + 1, 0, none⟩) (by show w.heap.size ≤ w.heap.size + 1 + 1; omega) _
  have k : ∀ i, i ≠ w.heap.size + 1 + 1 → (W.setCell ⟨w.heap.size + 1 + 1, 0, none⟩ (.bool v)).heap[i]? = W.heap[i]? := fun i hi => Below.heap_setCell W ⟨w.heap.size + 1 + 1, 0, none⟩ _ _ hi
  have h1 := h.lt
  have h2 := h.lu
  exact ⟨hm.step hB, hG.step hB, h.r5.keep (k _ (by omega)), h.r7.keep (k _ (by omega)), ⟨v, hb.set_ 0 (.bool v)⟩, h.n.keep (k _ (by omega)), h.k.keep (k _ (by omega)), hB, (k D (by omega)).trans h.d, h1, h2⟩
set_option maxHeartbeats 8000000 in
set_option maxRecDepth 100000 in
theorem told12_any (p : Value) (A2 : Option Addr) (d2 : Nat) (zs : List Int) (many id : Int) (w : World) (hI : Ix w p zs many) (hG : Gs eI w 0 w.heap.size (.slice A2 zs.length d2) zs) (hl : zs.length ≤ 20000) :
    Calls Try.prog 13 #[p, .slice A2 zs.length d2, .int .i64 many, .int .i64 id] w fun e w' => e = .returned (.bool true) ∧ Below w.heap.size w w' := by
  obtain ⟨g, A, c, rfl, hm⟩ := hI
  obtain ⟨W1, hW1⟩ : ∃ W1, W1 = ((w.alloc (.cells #[.slice A2 zs.length d2] 22)).alloc (.cells #[.int .i64 id] 3)).alloc (.cells #[.bool false] 4) := ⟨_, rfl⟩
  have L1 := Lib.hid (show Row W1 w.heap.size 22 #[.slice A2 zs.length d2] by rw [hW1]; exact ((Row.new _ _ _).alloc _).alloc _)
  have D1 := Lib.hid (show Row W1 (w.heap.size + 1) 3 #[.int .i64 id] by rw [hW1]; have := (Row.new (w.alloc (.cells #[.slice A2 zs.length d2] 22)) 3 #[.int .i64 id]).alloc (.cells #[.bool false] 4); simpa using this)
  have X1 := Lib.hid (show Row W1 (w.heap.size + 1 + 1) 4 #[.bool false] by rw [hW1]; have := Row.new ((w.alloc (.cells #[.slice A2 zs.length d2] 22)).alloc (.cells #[.int .i64 id] 3)) 4 #[.bool false]; simpa using this)
  have B1 := Lib.hid (show Below w.heap.size w W1 by rw [hW1]; exact (((Below.refl _ _).alloc (Nat.le_refl _) _).alloc (by simp) _).alloc (by simp; omega) _)
  have M1 := Lib.hid (hm.step B1.out)
  have HM0 := Lib.hid hm
  have HG0 := Lib.hid hG
  have G0 := Lib.hid (hG.step B1.out)
  have HN := Lib.hid hl
  have hmb := hm.many_le
  have HLen := Lib.hid (fun W (b : Below W1.heap.size W1 W) => len_any _ _ _ _ A _ c W (M1.out.step b).at_)
  have HMany := Lib.hid (fun W (b : Below W1.heap.size W1 W) => many_any _ _ _ _ A _ c W (M1.out.step b).at_)
  have hwid := fun W (b : Below W1.heap.size W1 W) => wid_any _ _ _ _ A _ c W (M1.out.step b).at_
  have hrw := fun W => rwid_any many W (by omega)
  have hc1 := fun W (b : Below W1.heap.size W1 W) => bytes_c g A c zs many W (M1.out.step b)
  have hc2 := fun W (b : Below W1.heap.size W1 W) => refBytes_c A2 d2 zs many W (G0.out.step b) hm.may hm.all hl
  generalize iB zs many = bs at hc1 hc2
  generalize wdm many = wd_ at hwid hrw
  have CB1 := Lib.hid hc1
  have CB2 := Lib.hid hc2
  have HWid := Lib.hid hwid
  have HRW := Lib.hid hrw
  clear hc1 hc2 hwid hrw hm hG hmb hl
  refine (callsIn_wide (n := 3)).1 ?_
  refine callsIn_of_wp_marks Try.func13 rfl trivial ?_ rfl
  refine wpIn_wide.2 ?_
  simp only [Try.ntmps13, List.size_toArray, List.length_cons, List.length_nil, Nat.reduceAdd, Nat.reduceSub, Array.replicate_succ, Array.replicate_zero, List.push_toArray, List.append_toArray, List.nil_append, List.cons_append]
  go_wp2_with fail
  rw [← hW1]
  clear hW1
  refine wp_only ?_
  have hSc := (Below.refl W1.heap.size W1).drew
  refine wp_region_all (S := fun W => Below W1.heap.size W1 W) (by kernel_rfl) hSc (fun W0 hSc => ?_)
  refine held_take 0 ?_ rfl (by kernel_rfl) (by kernel_rfl) (by kernel_rfl) (fun _ _ _ h => h) (by rfl) ?_ hSc ?_
  rotate_left
  · (intro W hSW; go_simp; try rfl)
  try simp only [Act.put, List.setIfInBounds_toArray, List.set_cons_zero, List.set_cons_succ]
  refine held_take 1 ?_ rfl (by kernel_rfl) (by kernel_rfl) (by kernel_rfl) (fun _ _ _ h => h) (by rfl) ?_ hSc ?_
  rotate_left
  · (intro W hSW; go_simp; try rfl)
  try simp only [Act.put, List.setIfInBounds_toArray, List.set_cons_zero, List.set_cons_succ]
  refine held_take 2 ?_ rfl (by kernel_rfl) (by kernel_rfl) (by kernel_rfl) (fun _ _ _ h => h) (by rfl) ?_ hSc ?_
  rotate_left
  · (intro W hSW; go_simp; try rfl)
  try simp only [Act.put, List.setIfInBounds_toArray, List.set_cons_zero, List.set_cons_succ]
  refine held_take 3 ?_ rfl (by kernel_rfl) (by kernel_rfl) (by kernel_rfl) (fun _ _ _ h => h) (by rfl) ?_ hSc ?_
  rotate_left
  · (intro W hSW; go_simp; try rfl)
  try simp only [Act.put, List.setIfInBounds_toArray, List.set_cons_zero, List.set_cons_succ]
  refine held_take 5 ?_ rfl (by kernel_rfl) (by kernel_rfl) (by kernel_rfl) (fun _ _ _ h => h) (by rfl) ?_ hSc ?_
  rotate_left
  · (intro W hSW; have c5 := cell_row (L1.out.below hSW L1.out.lt); go_simp; try rfl)
  try simp only [Act.put, List.setIfInBounds_toArray, List.set_cons_zero, List.set_cons_succ]
  refine held_take 6 ?_ rfl (by kernel_rfl) (by kernel_rfl) (by kernel_rfl) (fun _ _ _ h => h) (by rfl) ?_ hSc ?_
  rotate_left
  · (intro W hSW; go_simp; try rfl)
  try simp only [Act.put, List.setIfInBounds_toArray, List.set_cons_zero, List.set_cons_succ]
  refine held_next 4 rfl (by kernel_rfl) (by rfl) ?_
  go_simp
  refine (HLen.out _ hSc).mono ?_
  rintro e wq1 ⟨rfl, b1⟩
  have hSd : (fun W => Below W1.heap.size W1 W) wq1 := hSc.trans (b1.mono hSc.size)
  refine ⟨fun W => Below W1.heap.size W1 W, fun W hW => hW, hSd, ?_⟩
  clear hSc b1
  have hSc := hSd
  clear hSd
  try simp only [Act.put, List.setIfInBounds_toArray, List.set_cons_zero, List.set_cons_succ]
  refine held_take 7 ?_ rfl (by kernel_rfl) (by kernel_rfl) (by kernel_rfl) (fun _ _ _ h => h) (by rfl) ?_ hSc ?_
  rotate_left
  · (intro W hSW; go_simp; try rfl)
  try simp only [Act.put, List.setIfInBounds_toArray, List.set_cons_zero, List.set_cons_succ]
  refine held_take 8 ?_ rfl (by kernel_rfl) (by kernel_rfl) (by kernel_rfl) (fun _ _ _ h => h) (by rfl) ?_ hSc ?_
  rotate_left
  · (intro W hSW; go_simp; try rfl)
  try simp only [Act.put, List.setIfInBounds_toArray, List.set_cons_zero, List.set_cons_succ]
  refine held_take 9 ?_ rfl (by kernel_rfl) (by kernel_rfl) (by kernel_rfl) (fun _ _ _ h => h) (by rfl) ?_ hSc ?_
  rotate_left
  · (intro W hSW; go_simp; try rfl)
  try simp only [Act.put, List.setIfInBounds_toArray, List.set_cons_zero, List.set_cons_succ]
  refine held_take 10 ?_ rfl (by kernel_rfl) (by kernel_rfl) (by kernel_rfl) (fun _ _ _ h => h) (by rfl) ?_ hSc ?_
  rotate_left
  · (intro W hSW; go_simp; try rfl)
  try simp only [Act.put, List.setIfInBounds_toArray, List.set_cons_zero, List.set_cons_succ]
  refine held_take 12 ?_ rfl (by kernel_rfl) (by kernel_rfl) (by kernel_rfl) (fun _ _ _ h => h) (by rfl) ?_ hSc ?_
  rotate_left
  · (intro W hSW; go_simp; try rfl)
  try simp only [Act.put, List.setIfInBounds_toArray, List.set_cons_zero, List.set_cons_succ]
  refine held_next 11 rfl (by kernel_rfl) (by rfl) ?_
  go_simp
  refine (HMany.out _ hSc).mono ?_
  rintro e wq2 ⟨rfl, b2⟩
  have hSd : (fun W => Below W1.heap.size W1 W) wq2 := hSc.trans (b2.mono hSc.size)
  refine ⟨fun W => Below W1.heap.size W1 W, fun W hW => hW, hSd, ?_⟩
  clear hSc b2
  have hSc := hSd
  clear hSd
  try simp only [Act.put, List.setIfInBounds_toArray, List.set_cons_zero, List.set_cons_succ]
  refine held_take 13 ?_ rfl (by kernel_rfl) (by kernel_rfl) (by kernel_rfl) (fun _ _ _ h => h) (by rfl) ?_ hSc ?_
  rotate_left
  · (intro W hSW; go_simp; try rfl)
  try simp only [Act.put, List.setIfInBounds_toArray, List.set_cons_zero, List.set_cons_succ]
  refine held_take 14 ?_ rfl (by kernel_rfl) (by kernel_rfl) (by kernel_rfl) (fun _ _ _ h => h) (by rfl) ?_ hSc ?_
  rotate_left
  · (intro W hSW; go_simp; try rfl)
  try simp only [Act.put, List.setIfInBounds_toArray, List.set_cons_zero, List.set_cons_succ]
  refine held_take 15 ?_ rfl (by kernel_rfl) (by kernel_rfl) (by kernel_rfl) (fun _ _ _ h => h) (by rfl) ?_ hSc ?_
  rotate_left
  · (intro W hSW; go_simp; try rfl)
  try simp only [Act.put, List.setIfInBounds_toArray, List.set_cons_zero, List.set_cons_succ]
  refine held_take 16 ?_ rfl (by kernel_rfl) (by kernel_rfl) (by kernel_rfl) (fun _ _ _ h => h) (by rfl) ?_ hSc ?_
  rotate_left
  · (intro W hSW; go_simp; try rfl)
  try simp only [Act.put, List.setIfInBounds_toArray, List.set_cons_zero, List.set_cons_succ]
  refine held_take 18 ?_ rfl (by kernel_rfl) (by kernel_rfl) (by kernel_rfl) (fun _ _ _ h => h) (by rfl) ?_ hSc ?_
  rotate_left
  · (intro W hSW; go_simp; try rfl)
  try simp only [Act.put, List.setIfInBounds_toArray, List.set_cons_zero, List.set_cons_succ]
  refine held_next 17 rfl (by kernel_rfl) (by rfl) ?_
  go_simp
  refine (HWid.out _ hSc).mono ?_
  rintro e wq3 ⟨rfl, b3⟩
  have hSd : (fun W => Below W1.heap.size W1 W) wq3 := hSc.trans (b3.mono hSc.size)
  refine ⟨fun W => Below W1.heap.size W1 W, fun W hW => hW, hSd, ?_⟩
  clear hSc b3
  have hSc := hSd
  clear hSd
  try simp only [Act.put, List.setIfInBounds_toArray, List.set_cons_zero, List.set_cons_succ]
  refine held_next 19 rfl (by kernel_rfl) (by rfl) ?_
  go_simp
  refine (HRW.out _).mono ?_
  rintro e _ ⟨rfl, rfl⟩
  refine ⟨fun W => Below W1.heap.size W1 W, fun W hW => hW, hSc, ?_⟩
  try simp only [Act.put, List.setIfInBounds_toArray, List.set_cons_zero, List.set_cons_succ]
  refine held_take 20 ?_ rfl (by kernel_rfl) (by kernel_rfl) (by kernel_rfl) (fun _ _ _ h => h) (by rfl) ?_ hSc ?_
  rotate_left
  · (intro W hSW; go_simp; try rfl)
  try simp only [Act.put, List.setIfInBounds_toArray, List.set_cons_zero, List.set_cons_succ]
  refine held_take 21 ?_ rfl (by kernel_rfl) (by kernel_rfl) (by kernel_rfl) (fun _ _ _ h => h) (by rfl) ?_ hSc ?_
  rotate_left
  · (intro W hSW; go_simp; try rfl)
  try simp only [Act.put, List.setIfInBounds_toArray, List.set_cons_zero, List.set_cons_succ]
  refine held_take 22 ?_ rfl (by kernel_rfl) (by kernel_rfl) (by kernel_rfl) (fun _ _ _ h => h) (by rfl) ?_ hSc ?_
  rotate_left
  · (intro W hSW; go_simp; try rfl)
  try simp only [Act.put, List.setIfInBounds_toArray, List.set_cons_zero, List.set_cons_succ]
  refine held_take 23 ?_ rfl (by kernel_rfl) (by kernel_rfl) (by kernel_rfl) (fun _ _ _ h => h) (by rfl) ?_ hSc ?_
  rotate_left
  · (intro W hSW; go_simp; try rfl)
  try simp only [Act.put, List.setIfInBounds_toArray, List.set_cons_zero, List.set_cons_succ]
  refine held_take 26 ?_ rfl (by kernel_rfl) (by kernel_rfl) (by kernel_rfl) (fun _ _ _ h => h) (by rfl) ?_ hSc ?_
  rotate_left
  · (intro W hSW; have c5 := cell_row (L1.out.below hSW L1.out.lt); go_simp; try rfl)
  try simp only [Act.put, List.setIfInBounds_toArray, List.set_cons_zero, List.set_cons_succ]
  refine held_take 27 ?_ rfl (by kernel_rfl) (by kernel_rfl) (by kernel_rfl) (fun _ _ _ h => h) (by rfl) ?_ hSc ?_
  rotate_left
  · (intro W hSW; go_simp; try rfl)
  try simp only [Act.put, List.setIfInBounds_toArray, List.set_cons_zero, List.set_cons_succ]
  refine held_next 24 rfl (by kernel_rfl) (by rfl) ?_
  go_simp
  refine (CB1.out _ hSc).mono ?_
  rintro e x1 ⟨v1, rfl, o1, b1⟩
  have G1 := Lib.hid (o1.sl.more (Nat.zero_le _) (Nat.le_refl _))
  have U1 := Lib.hid (hSc.trans (b1.mono hSc.size))
  refine ⟨fun W => Below x1.heap.size x1 W, fun W hW => U1.out.trans (hW.mono U1.out.size), Below.refl _ _, ?_⟩
  obtain ⟨A1x, d1x, rfl, -⟩ := o1.sl
  clear o1 b1
  have hSc := Below.refl x1.heap.size x1
  try simp only [Act.put, List.setIfInBounds_toArray, List.set_cons_zero, List.set_cons_succ]
  refine held_take 25 ?_ rfl (by kernel_rfl) (by kernel_rfl) (by kernel_rfl) (fun _ _ _ h => h) (by rfl) ?_ hSc ?_
  rotate_left
  · (intro W hSW; have s1 := str8 (G1.out.below hSW); go_simp; try rfl)
  try simp only [Act.put, List.setIfInBounds_toArray, List.set_cons_zero, List.set_cons_succ]
  refine held_next 28 rfl (by kernel_rfl) (by rfl) ?_
  go_simp
  refine (CB2.out _ U1.out).mono ?_
  rintro e x2 ⟨v2, rfl, o2, b2⟩
  have G2 := Lib.hid (o2.sl.more (Nat.zero_le _) (Nat.le_refl _))
  have b2h := Lib.hid b2
  have U2 := Lib.hid (U1.out.trans (b2.mono U1.out.size))
  refine ⟨fun W => Below x2.heap.size x2 W, fun W hW => b2h.out.trans (hW.mono b2h.out.size), Below.refl _ _, ?_⟩
  obtain ⟨A2x, d2x, rfl, -⟩ := o2.sl
  clear o2 b2
  have hSc := Below.refl x2.heap.size x2
  try simp only [Act.put, List.setIfInBounds_toArray, List.set_cons_zero, List.set_cons_succ]
  refine held_take 29 ?_ rfl (by kernel_rfl) (by kernel_rfl) (by kernel_rfl) (fun _ _ _ h => h) (by rfl) ?_ hSc ?_
  rotate_left
  · (intro W hSW; have s1 := str8 (G2.out.below hSW); go_simp; try rfl)
  try simp only [Act.put, List.setIfInBounds_toArray, List.set_cons_zero, List.set_cons_succ]
  refine held_next 30 rfl (by kernel_rfl) (by rfl) ?_
  go_simp
  refine ⟨fun W => Below x2.heap.size x2 W, fun W hW => hW, hSc, ?_⟩
  try simp only [Act.put, List.setIfInBounds_toArray, List.set_cons_zero, List.set_cons_succ]
  refine held_next 31 rfl (by kernel_rfl) (by rfl) ?_
  go_simp
  refine ⟨fun W => Below x2.heap.size x2 W, fun W hW => hW, hSc, ?_⟩
  refine wpAnyH_done (by kernel_rfl) ?_ _
  unfold onlyN
  have U9 := Lib.hid (B1.out.trans (U2.out.mono B1.out.size))
  have M9 := Lib.hid (M1.out.step U2.out)
  have X9 := Lib.hid (X1.out.below U2.out X1.out.lt)
  have L9 := Lib.hid (L1.out.below U2.out L1.out.lt)
  have D9 := Lib.hid (D1.out.below U2.out D1.out.lt)
  have G9 := Lib.hid (G0.out.step U2.out)
  obtain ⟨u, hu⟩ : ∃ u, u = x2 := ⟨_, rfl⟩
  subst hu
  have hqn := fun W f a b => run_eql_func_nil (P := Try.prog) W 31 _ _ _ f a b Try.underlying31
  clear G1 G2 b2h U1 G0 L1 X1 D1 M1 U2 CB1 CB2 HLen HMany HWid HRW hSc
  obtain ⟨N1, hN1⟩ : ∃ N1, N1 = u.heap.size := ⟨_, rfl⟩
  have HN1 := Lib.hid hN1
  have B3 := Lib.hid (show Below u.heap.size u ((u.alloc (.cells #[.int .i64 0] 3)).alloc (.cells #[.int .i64 0] 3)) from ((Below.refl _ _).alloc (Nat.le_refl _) _).alloc (by simp) _)
  have N3 := Lib.hid (show Row ((u.alloc (.cells #[.int .i64 0] 3)).alloc (.cells #[.int .i64 0] 3)) u.heap.size 3 #[.int .i64 0] from (Row.new _ _ _).alloc _)
  have C3 := Lib.hid (show Row ((u.alloc (.cells #[.int .i64 0] 3)).alloc (.cells #[.int .i64 0] 3)) (u.heap.size + 1) 3 #[.int .i64 0] by have := Row.new (u.alloc (.cells #[.int .i64 0] 3)) 3 #[.int .i64 0]; simpa using this)
  go_wp2_with (go_at_call 12; refine (all_any _ _ _ _ A _ c _ (M9.out.step B3.out).at_).mono ?_; rintro e w5 ⟨Bs5, rfl, -, -, b5⟩; have B5 := Lib.hid (B3.out.trans (b5.mono B3.out.size)); have N5 := Lib.hid (N3.out.below b5 N3.out.lt); have C5 := Lib.hid (C3.out.below b5 C3.out.lt); clear b5; go_wp2_with (go_at_call 12; refine (all_any _ _ _ _ A _ c _ (M9.out.step B5.out).at_).mono ?_; rintro e w6 ⟨Bs, rfl, hs, hr, b6⟩; have HLT := Lib.hid (show u.heap.size + 1 < Bs by have := C5.out.lt; omega); have B6 := Lib.hid (B5.out.trans (b6.mono B5.out.size)); have N6 := Lib.hid (N5.out.below b6 N5.out.lt); have C6 := Lib.hid (C5.out.below b6 C5.out.lt); have R6 := Lib.hid hr; clear b6 hs hr))
  have HSEQ := M9.out.seqs w6 Bs B6.out (by have := HLT.out; omega) R6.out
  refine (wpIn_wide (n := 3)).1 ?_
  refine range_two (n₀ := u.heap.size) (Bs := Bs) B6.out.size R6.out.lt rfl (enters_of Try.func31 (by kernel_rfl) rfl) HSEQ (Below.refl _ _)
    (fun xs W => Row W u.heap.size 3 #[.int .i64 (xs.length : Int)] ∧ Row W (u.heap.size + 1) 3 #[.int .i64 ((xs.filter fun x => x.2 == id).length : Int)] ∧ Below u.heap.size u W)
    (fun c xs _ => toldBad zs c xs)
    (fun s X Y row hs hg hr => ⟨row_own (β := Unit) hs.1 hg (fun r e => (hr r e).2), row_own (β := Unit) hs.2.1 hg (fun r e => (hr r e).2), (ownFrom_below (β := List (Nat × Int)) (Nat.le_refl _) B6.out.size) s X Y row hs.2.2 hg hr⟩)
    (fun c => ownFrom_pure _ _) ⟨N6.out, C6.out, B6.out⟩ (fun ts x => ((((ts.setIfInBounds 54 (.int .i64 (x.1 : Int))).setIfInBounds 55 (.int .i64 x.2)).setIfInBounds 11 (.int .i64 (x.1 : Int))).setIfInBounds 12 (.int .i64 x.2))) ?assign ?body ?done ?stop
  case assign =>
    intro l x W K hK
    gi_wp2
    exact hK
  case body =>
    rintro y pre ⟨i0, z⟩ W ⟨hX, hC, hB⟩ hpl
    obtain ⟨p0, hp0⟩ : ∃ p0, pre.length = p0 := ⟨_, rfl⟩
    obtain ⟨C, hCC⟩ : ∃ C, (pre.filter fun x => x.2 == id).length = C := ⟨_, rfl⟩
    have hCs : C ≤ 100000 := by have h1 := List.length_filter_le (fun x : Nat × Int => x.2 == id) pre; have := HN.out; omega
    rw [hp0] at hX hpl
    rw [hCC] at hC
    have HP0 := Lib.hid hp0
    have HCC := Lib.hid hCC
    have HX := Lib.hid hX
    have HC := Lib.hid hC
    have HB := Lib.hid hB
    have a0 := cell_row hX
    have f0 := hX.frozen 0
    have a1 := cell_row hC
    have f1 := hC.frozen 0
    have hL := L9.out.below hB L9.out.lt
    have hD := D9.out.below hB D9.out.lt
    have hXX := X9.out.below hB X9.out.lt
    have l0 := cell_row hL
    have d0 := cell_row hD
    have x0 := cell_row hXX
    have x1 := hXX.frozen 0
    have hGG := G9.out.below hB
    obtain ⟨b, boff, bc', e, -, -, -, bw, hc⟩ := hGG.form (fun e => by have h := congrArg List.length e; simp only [List.length_nil] at h; omega)
    injection e with e1 e2 e3
    clear e2
    subst e1 e3
    obtain ⟨Y, hY⟩ : ∃ Y, zs[p0]? = some Y := ⟨_, List.getElem?_eq_getElem (by omega)⟩
    have q0 := hc p0 Y hY
    simp only [eI] at q0
    have HY := Lib.hid hY
    have hn := HN.out
    have gl : decide ((zs.length : Int) ≤ (p0 : Int)) = false := decide_eq_false (by omega)
    have ha := wrap_add1 (a := p0) (by omega)
    have hb := wrap_add1 (a := C) (by omega)
    have hu1 : u.heap.size ≠ u.heap.size + 1 := by omega
    have hu2 : u.heap.size + 1 ≠ u.heap.size := by omega
    clear hX hC hB hL hD hXX hGG hc hY hp0 hCC
    try simp only [List.setIfInBounds_toArray, List.set_cons_zero, List.set_cons_succ]
    by_cases h0 : i0 = p0
    · subst h0
      by_cases hq : z = Y
      · subst hq
        by_cases he : z = id
        · have e0 : (z == id) = true := by simpa using he
          have HE := Lib.hid he
          clear he
          gi_wp2
          have hts := two_set (x' := .int .i64 ((i0 + 1 : Nat) : Int)) (y' := .int .i64 ((C + 1 : Nat) : Int)) HX.out HC.out hu1
          refine ⟨KeepsFrom.of_grownBy2 (by have := B6.out.size; have := C6.out.lt; omega) (by have := C6.out.lt; omega), ⟨((Below.refl u.heap.size W).setCell (p := ⟨u.heap.size + 1, 0, none⟩) (Nat.le_succ _) _).setCell (p := ⟨u.heap.size, 0, none⟩) (Nat.le_refl _) _, two_heap (by have := HLT.out; omega) (by have := HLT.out; omega)⟩, ?_, ?_, (HB.out.setCell (p := ⟨u.heap.size + 1, 0, none⟩) (Nat.le_succ _) _).setCell (p := ⟨u.heap.size, 0, none⟩) (Nat.le_refl _) _⟩
          · rw [List.length_append, List.length_cons, List.length_nil, HP0.out]
            exact hts.1
          · rw [List.filter_append, List.length_append, HCC.out, List.filter_cons_of_pos (by simpa using HE.out), List.filter_nil]
            exact hts.2
        · have e0 : (z == id) = false := by simpa using he
          have HE := Lib.hid he
          clear he
          gi_wp2
          refine ⟨KeepsFrom.of_grownBy (grown_set W u.heap.size 0 _) (fun j e => by injection e with e; have := N6.out.lt; omega), ⟨(Below.refl u.heap.size W).setCell (p := ⟨u.heap.size, 0, none⟩) (Nat.le_refl _) _, Below.heap_setCell W ⟨u.heap.size, 0, none⟩ _ _ (by have := HLT.out; show Bs ≠ u.heap.size; omega)⟩, ?_, ?_, HB.out.setCell (p := ⟨u.heap.size, 0, none⟩) (Nat.le_refl _) _⟩
          · rw [List.length_append, List.length_cons, List.length_nil, HP0.out]
            exact HX.out.set_ 0 (.int .i64 ((i0 + 1 : Nat) : Int))
          · rw [List.filter_append, List.length_append, HCC.out, List.filter_cons_of_neg (by simpa using HE.out), List.filter_nil]
            exact HC.out.keep (Below.heap_setCell W ⟨u.heap.size, 0, none⟩ _ _ hu2)
      · have e0 : (z != Y) = true := by simpa using hq
        have HQ := Lib.hid hq
        clear hq
        gi_wp2
        exact ⟨(KeepsOthers.setCell _ _ _).from _, rfl, pre, _, rfl, .inr (by rw [HP0.out, HY.out]; intro e; injection e with e; exact HQ.out e.symm)⟩
    · have hne : ((i0 : Int) != (p0 : Int)) = true := by simp; omega
      have HI0 := Lib.hid h0
      clear h0
      gi_wp2
      exact ⟨(KeepsOthers.setCell _ _ _).from _, rfl, pre, _, rfl, .inl (by rw [HP0.out]; exact HI0.out)⟩
  case stop =>
    rintro D c pre W hD ⟨k, hk, hpre⟩ ⟨rfl, ini, x, e1, e2⟩ hK
    exfalso
    cases k with
    | zero => rw [hpre] at e1; simp [prs] at e1
    | succ k =>
      rw [hpre, prs_succ] at e1
      obtain ⟨e4, e5⟩ := List.append_inj' e1 rfl
      injection e5 with e5
      subst e4 e5
      rw [prs_len] at e2
      rcases e2 with e2 | e2
      · exact e2 rfl
      · exact e2 (by rw [getElem!_pos zs k (by omega)]; exact List.getElem?_eq_getElem (by omega))
  case done =>
    rintro D xs u7 hD hxs ⟨hX, hC, hB⟩ hK
    rw [hxs, prs_len] at hX
    rw [hxs, cntp zs id _ (Nat.le_refl _)] at hC
    have T7 := Lib.hid (show Tl w u7 A2 d2 zs id many g A c u D from ⟨M9.out.step hB, G9.out.step hB, L9.out.below hB L9.out.lt, D9.out.below hB D9.out.lt, ⟨false, X9.out.below hB X9.out.lt⟩, hX, hC, U9.out.trans (hB.mono U9.out.size), hK, by have := X9.out.lt; have := B6.out.size; omega, by have := X9.out.lt; omega⟩)
    clear hX hC hB hK hxs HSEQ
    have hn := HN.out
    obtain ⟨L, hL⟩ : ∃ L, zs.length = L := ⟨_, rfl⟩
    have HL := Lib.hid hL
    rw [hL] at hn
    clear hL
    go_wp2_with fail
    go_loopw [13] (fun i wr => ∃ I : Int, i = .int .i64 I ∧ Hid (-1 ≤ I ∧ I ≤ (L : Int) + 1 ∧ Tl w wr A2 d2 zs id many g A c u D)) (fun i _ => ((L : Int) + 1 - intOf i).toNat)
    case atStart => exact ⟨-1, rfl, Lib.hid ⟨by omega, by omega, T7.out⟩⟩
    case round =>
      obtain ⟨I, rfl, hI⟩ := hrel
      have HI := Lib.hid hI.out
      obtain ⟨hi1, hi2, hb⟩ := hI.out
      clear hI
      have c5 := cell_row hb.r5
      rw [HL.out] at c5
      by_cases hgt : I ≤ (L : Int)
      · have hw : wrap64 (I + 1) = I + 1 := by unfold wrap64; omega
        have hw2 : IntKind.i64.wrap (I + 1) = I + 1 := by rw [IntKind.wrap_i64]; omega
        have hle : decide (I ≤ (L : Int)) = true := decide_eq_true hgt
        by_cases hout : I < 0 ∨ (L : Int) ≤ I
        · have HG := Lib.hid (get_out g A c zs many I wr hb.m (by rw [HL.out]; exact hout))
          clear hb
          by_cases hneg : I < 0
          · have d1 : decide (0 ≤ I) = false := decide_eq_false (by omega)
            clear hout
            go_wp2_with (go_at_call 16; refine HG.out.mono ?_; rintro e w8 ⟨rfl, b8⟩; have T8 := Lib.hid (HI.out.2.2.step b8); have c5 := cell_row T8.out.r5; rw [HL.out] at c5; clear b8)
            go_roundw
            case rel => exact ⟨I + 1, by first | rfl | rw [hw] | go_num, Lib.hid ⟨by omega, by omega, T8.out⟩⟩
            case measure => simp [intOf]; omega
          · have d1 : decide (0 ≤ I) = true := decide_eq_true (by omega)
            have d2 : decide (I < (L : Int)) = false := decide_eq_false (by omega)
            clear hout
            go_wp2_with (go_at_call 16; refine HG.out.mono ?_; rintro e w8 ⟨rfl, b8⟩; have T8 := Lib.hid (HI.out.2.2.step b8); have c5 := cell_row T8.out.r5; rw [HL.out] at c5; clear b8)
            go_roundw
            case rel => exact ⟨I + 1, by first | rfl | rw [hw] | go_num, Lib.hid ⟨by omega, by omega, T8.out⟩⟩
            case measure => simp [intOf]; omega
        · obtain ⟨j, rfl⟩ : ∃ j : Nat, I = (j : Int) := ⟨I.toNat, by omega⟩
          have hjl : j < L := by omega
          obtain ⟨Y, hY⟩ : ∃ Y, zs[j]? = some Y := ⟨_, List.getElem?_eq_getElem (by rw [HL.out]; exact hjl)⟩
          have HG := Lib.hid (get_in g A c zs many j Y wr hb.m hY)
          obtain ⟨b, boff, bc', e, -, -, -, bw, hc⟩ := hb.gs.form (fun e => by have h := congrArg List.length e; have := HL.out; simp only [List.length_nil] at h; omega)
          injection e with e1 e2 e3
          clear e2
          subst e1 e3
          have hq0 := hc j Y hY
          simp only [eI] at hq0
          have HQ := Lib.hid (fun (W : World) (h : Below wr.heap.size wr W) => (h.cell (p := ⟨b, _, none⟩) bw).trans hq0)
          have d1 : decide (0 ≤ (j : Int)) = true := decide_eq_true (by omega)
          have d2 : decide ((j : Int) < (L : Int)) = true := decide_eq_true (by omega)
          have ha := wrap_add1 (a := j) (by omega)
          clear hY hc hq0 hb hout hi1 hi2 hgt hw hw2
          go_wp2_with (go_at_call 16; refine HG.out.mono ?_; rintro e w8 ⟨rfl, b8⟩; have T8 := Lib.hid (HI.out.2.2.step b8); have c5 := cell_row T8.out.r5; rw [HL.out] at c5; have q0 := HQ.out _ b8; clear b8)
          go_roundw
          case rel => exact ⟨((j + 1 : Nat) : Int), by go_num, Lib.hid ⟨by omega, by omega, T8.out⟩⟩
          case measure => simp [intOf]; omega
      · have eI : I = (L : Int) + 1 := by omega
        subst eI
        have hle : decide ((L : Int) + 1 ≤ (L : Int)) = false := decide_eq_false (by omega)
        have TR := Lib.hid hb
        clear hb hi1 hi2 hgt
        go_wp2_with fail
        refine wp_only ?_
        have hSc := TR.out.drew
        refine wp_region_all (S := fun W => Tl w W A2 d2 zs id many g A c u D) (by kernel_rfl) hSc (fun W0 hSc => ?_)
        refine held_take 0 ?_ rfl (by kernel_rfl) (by kernel_rfl) (by kernel_rfl) (fun _ _ _ h => h) (by rfl) ?_ hSc ?_
        rotate_left
        · (intro W hSW; have q := cell_row (hSW).n; go_simp; try rfl)
        try simp only [Act.put, List.setIfInBounds_toArray, List.set_cons_zero, List.set_cons_succ]
        refine held_take 1 ?_ rfl (by kernel_rfl) (by kernel_rfl) (by kernel_rfl) (fun _ _ _ h => h) (by rfl) ?_ hSc ?_
        rotate_left
        · (intro W hSW; have q := cell_row (hSW).r5; go_simp; try rfl)
        try simp only [Act.put, List.setIfInBounds_toArray, List.set_cons_zero, List.set_cons_succ]
        refine held_take 2 ?_ rfl (by kernel_rfl) (by kernel_rfl) (by kernel_rfl) (fun _ _ _ h => h) (by rfl) ?_ hSc ?_
        rotate_left
        · (intro W hSW; go_simp; try rfl)
        try simp only [Act.put, List.setIfInBounds_toArray, List.set_cons_zero, List.set_cons_succ]
        refine held_take 3 ?_ rfl (by kernel_rfl) (by kernel_rfl) (by kernel_rfl) (fun _ _ _ h => h) (by rfl) ?_ hSc ?_
        rotate_left
        · (intro W hSW; go_simp; try rfl)
        try simp only [Act.put, List.setIfInBounds_toArray, List.set_cons_zero, List.set_cons_succ]
        refine held_take 4 ?_ rfl (by kernel_rfl) (by kernel_rfl) (by kernel_rfl) (fun _ _ _ h => h) (by rfl) ?_ hSc ?_
        rotate_left
        · (intro W hSW; go_simp; try rfl)
        try simp only [Act.put, List.setIfInBounds_toArray, List.set_cons_zero, List.set_cons_succ]
        refine held_take 5 ?_ rfl (by kernel_rfl) (by kernel_rfl) (by kernel_rfl) (fun _ _ _ h => h) (by rfl) ?_ hSc ?_
        rotate_left
        · (intro W hSW; go_simp; try rfl)
        try simp only [Act.put, List.setIfInBounds_toArray, List.set_cons_zero, List.set_cons_succ]
        refine held_take 6 ?_ rfl (by kernel_rfl) (by kernel_rfl) (by kernel_rfl) (fun _ _ _ h => h) (by rfl) ?_ hSc ?_
        rotate_left
        · (intro W hSW; have q := cell_row (hSW).r7; go_simp; try rfl)
        try simp only [Act.put, List.setIfInBounds_toArray, List.set_cons_zero, List.set_cons_succ]
        refine held_take 8 ?_ rfl (by kernel_rfl) (by kernel_rfl) (by kernel_rfl) (fun _ _ _ h => h) (by rfl) ?_ hSc ?_
        rotate_left
        · (intro W hSW; have q := cell_row (hSW).k; go_simp; try rfl)
        try simp only [Act.put, List.setIfInBounds_toArray, List.set_cons_zero, List.set_cons_succ]
        refine held_next 7 rfl (by kernel_rfl) (by rfl) ?_
        go_simp
        refine (ix_count g A c zs many id _ hSc.m).mono ?_
        rintro e wq ⟨rfl, bq⟩
        have hSd := hSc.step bq
        refine ⟨fun W => Tl w W A2 d2 zs id many g A c u D, fun W hW => hW, hSd, ?_⟩
        clear hSc bq
        have hSc := hSd
        clear hSd
        try simp only [Act.put, List.setIfInBounds_toArray, List.set_cons_zero, List.set_cons_succ]
        refine held_take 9 ?_ rfl (by kernel_rfl) (by kernel_rfl) (by kernel_rfl) (fun _ _ _ h => h) (by rfl) ?_ hSc ?_
        rotate_left
        · (intro W hSW; go_simp; try rfl)
        try simp only [Act.put, List.setIfInBounds_toArray, List.set_cons_zero, List.set_cons_succ]
        refine held_take 10 ?_ rfl (by kernel_rfl) (by kernel_rfl) (by kernel_rfl) (fun _ _ _ h => h) (by rfl) ?_ hSc ?_
        rotate_left
        · (intro W hSW; go_simp; try rfl)
        try simp only [Act.put, List.setIfInBounds_toArray, List.set_cons_zero, List.set_cons_succ]
        obtain ⟨bb, hbb⟩ := hSc.r8
        have r8 := cell_row hbb
        have f8 := hbb.frozen 0
        have TF := Lib.hid (hSc.put HM0.out HG0.out true hbb)
        have RF := Lib.hid (hbb.set_ 0 (.bool true))
        refine held_next 11 rfl (by kernel_rfl) (by rfl) ?_
        go_simp
        refine ⟨fun W => Tl w W A2 d2 zs id many g A c u D ∧ Row W (w.heap.size + 1 + 1) 4 #[.bool true], fun W hW => hW.1, ⟨hSc.put HM0.out HG0.out true hbb, hbb.set_ 0 (.bool true)⟩, ?_⟩
        refine wpAnyH_done (by kernel_rfl) ?_ _
        unfold onlyN
        go_wp2
        have hD0 := TF.out.lt
        have hne : w.heap.size + 1 + 1 ≠ D := by omega
        have hK' := TF.out.d
        have RD := Row.keep (RF.out) (World.putObj_heap_other (o := .deferred none) (r := D) (k := w.heap.size + 1 + 1) hne)
        have BF := TF.out.b.trans (belowK_b (w := w) (Nat.le_refl _) _ D _ (.deferred none) (by omega) hK' rfl rfl)
        refine leaves_mark (D := D) (v := .bool true) rfl hK' ?_ ⟨rfl, BF⟩
        have hres : Try.f13.results = #[.cell 8 4] := by kernel_rfl
        have cc := cell_row (v := .bool true) RD
        simp only [results, hres]
        go_simp
end Go.Proofs.Ytpanfpcfhgnkoaa
