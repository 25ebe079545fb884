/- Walks: Count. -/
import Derived.Test.YtpanfpcfhgnkoaaSe
namespace Go.Proofs.Ytpanfpcfhgnkoaa
open Go.RowKit Go.Shelf
set_option linter.unusedVariables false

attribute [local go_sem] Oper.semAt_some

/-- A return with no mark that stands. -/
theorem leaves_ret {F : Fence} {n : Nat} {P : Program} {fn : Func} {R : Ending → World → Prop} {a : Act} {w : World} {v : Value} (hr : (results fn a.tmps).run P w = .ok v w) (hd : a.defers = []) (hR : R (.returned v) w) : bodyPostM F n P fn R .ret a w := by
  show LeavesInM F n P fn a.tmps R a.defers .returning w
  rw [hd]
  exact ⟨v, hr, hR⟩
/-- A return behind a range over a function. -/
theorem leaves_mark {F : Fence} {n D : Nat} {P : Program} {fn : Func} {R : Ending → World → Prop} {a : Act} {w : World} {v : Value} (hd : a.defers = [{ target := .collected D, args := #[] }]) (hK : w.heap[D]? = some (.deferred (some [])))
    (hr : (results fn a.tmps).run P (w.putObj D (.deferred none)) = .ok v (w.putObj D (.deferred none))) (hR : R (.returned v) (w.putObj D (.deferred none))) : bodyPostM F n P fn R .ret a w := by
  show LeavesInM F n P fn a.tmps R a.defers .returning w
  rw [hd]
  exact ⟨by simp, .inl ⟨_, _, rfl, run_takeDeferred hK, v, hr, hR⟩⟩
theorem keepD {w w' : World} {D : Nat} {x : Obj} (hk : w.heap[D]? = some x) (h : Below w.heap.size w w') : w'.heap[D]? = some x := (h.block D (Array.getElem?_eq_some_iff.1 hk).1).trans hk
theorem keepsFrom_below {B : Nat} {W W' : World} (h : Below W.heap.size W W') : KeepsFrom B W W' := ⟨h.size, fun k o _ hk _ => (h.block k (Array.getElem?_eq_some_iff.1 hk).1).trans hk⟩
/-- A block of cells abides what turns no cells. -/
theorem row_own {β : Type} {X Y : World} {row : Option Nat} {g : Nat} {t : TypeId} {cs : Array Value} (hs : Row X g t cs) (hg : X.grownBy Y row) (hr : ∀ r, row = some r → ∃ o : Obj, X.heap[r]? = some o ∧ o.isCells = false) : Row Y g t cs :=
  hs.grown hg (fun e => by obtain ⟨o, ho, hc⟩ := hr g e; rw [show X.heap[g]? = _ from hs] at ho; cases ho; cases hc)
theorem zip_two (ts : Array Value) (s1 s2 : Nat) (x : Nat × Int) : (ts.setIfInBounds s1 (.int .i64 (x.1 : Int))).setIfInBounds s2 (.int .i64 x.2) = ((#[s1, s2] : Array Tmp).zip (encP x)).foldl (fun t (p, v) => t.setIfInBounds p v) ts := by
  simp [encP]
/-- A range over rows and ids. -/
theorem range_two {g : Operand} {s1 s2 : Nat} {assign body : Code} {Q : Exit → Act → World → Prop} {ts : Array Value} {w : World} {gf : Nat} {lb : Array Value} {n₀ Bs : Nat} (hn₀ : n₀ ≤ w.heap.size) (hBs : Bs < w.heap.size)
    (hg : (Act.mk ts []).eval g = .func (.func gf) #[] lb) (eg : ∀ args w, (callFunc gf args).run Try.prog w = .ok (.enter gf args) w)
    {S Sp : List (Nat × Int) → Prop} {N : Nat} {w0 : World} (hseq : SeqStopsK Fence.wide (3 - 1) Try.prog gf lb encP (KB n₀ Bs) S Sp N w0) (hb0 : Below w0.heap.size w0 w)
    (I : List (Nat × Int) → World → Prop) (Ix : Code → List (Nat × Int) → World → Prop) (hI : OwnFrom w.heap.size I) (hIx : ∀ c, OwnFrom w.heap.size (Ix c)) (h0 : I [] w) (fr : Array Value → Nat × Int → Array Value)
    (hassign : ∀ (l : Nat) (x : Nat × Int) (W : World) (K : Act → World → Prop), K { tmps := fr ts x, defers := [] } W →
      assign.wpIn (Fence.wide.inRound l) (3 - 1 - 1) Try.prog (Exit.then K (fun _ _ _ => False)) { tmps := (ts.setIfInBounds s1 (.int .i64 (x.1 : Int))).setIfInBounds s2 (.int .i64 x.2), defers := [] } W)
    (hbody : ∀ (l : Nat) (pre : List (Nat × Int)) (x : Nat × Int) (W : World), I pre W → pre.length < N → body.wpIn (Fence.wide.inRound l) (3 - 1 - 1) Try.prog (ownPostG w.heap.size (KB n₀ Bs) I Ix (pre ++ [x]) W) { tmps := fr ts x, defers := [] } W)
    (hdone : ∀ (D : Nat) (xs : List (Nat × Int)) (W : World), w.heap.size ≤ D → S xs → I xs W → W.heap[D]? = some (.deferred (some [])) → Q .normal { tmps := ts, defers := [{ target := .collected D, args := #[] }] } W)
    (hstop : ∀ (D : Nat) (c : Code) (pre : List (Nat × Int)) (W : World), w.heap.size ≤ D → Sp pre → Ix c pre W → W.heap[D]? = some (.deferred (some [])) → c.wpIn Fence.wide 3 Try.prog Q { tmps := ts, defers := [{ target := .collected D, args := #[] }] } W) :
    (Code.rangeFunc g #[s1, s2] assign body).wpIn Fence.wide 3 Try.prog Q { tmps := ts, defers := [] } w := by
  refine wpIn_rangeFunc_ownH (F := Fence.wide) (n := 3) (a := { tmps := ts, defers := [] }) rfl (by omega) hg trivial eg hseq KB.trans (KB.put hn₀ hBs) hb0 (fun _ => rfl) I Ix hI hIx h0
    (fun x a' _ => a' = { tmps := fr ts x, defers := [] }) (fun x a' s X Y row hs _ _ => hs)
    (fun l pre x W K hi hK => (zip_two ts s1 s2 x) ▸ hassign l x W K (hK _ _ (KeepsFrom.refl _ _) (KB.refl _ _ W) hi rfl))
    (fun l pre x a' W hl _ hi hx hlt => by subst hx; exact hbody l pre x W hi hlt) hdone hstop
theorem wrap_add1 {a : Nat} (h : a ≤ 100000000) : wrap64 ((a : Int) + 1) = ((a + 1 : Nat) : Int) := by unfold wrap64; omega
theorem cell_row {W : World} {g : Nat} {t : TypeId} {v : Value} (h : Row W g t #[v]) : W.cell? ⟨g, 0, none⟩ = some v := by rw [h.cell]; rfl

/-- What comes from a function told by All, in whatever world. -/
def Seqs (w : World) (r m wd : Int) (A : Option Addr) (n c : Nat) (zs : List Int) : Prop :=
  ∀ W Bs, Below w.heap.size w W → w.heap.size ≤ Bs → Row W Bs 41 #[.int .i64 r, .int .i64 m, .int .i64 wd, .slice A n c] →
    SeqStopsK Fence.wide (3 - 1) Try.prog 31 #[.pointer (some ⟨Bs, 0, none⟩)] encP (KB w.heap.size Bs) (fun ys => ys = prs zs zs.length) (fun pre => ∃ k, k ≤ zs.length ∧ pre = prs zs k) zs.length W
theorem IxM.seqs {w : World} {g : Nat} {A : Option Addr} {c : Nat} {zs : List Int} {many : Int} (h : IxM w g A c zs many) : Seqs w zs.length many (wdm many : Nat) A (iP zs many).length c zs := fun W Bs hB hs hr =>
  all_stops Bs A c zs many W w.heap.size hB.size ⟨hr, h.pkd.below hB, h.may, h.all, h.small⟩
theorem cntp (zs : List Int) (id : Int) (k : Nat) (h : k ≤ zs.length) : (((prs zs k).filter fun x => x.2 == id).length) = cnt zs id k := by
  induction k with
  | zero => simp [prs, cnt]
  | succ k ih =>
    have hk : zs[k]? = some zs[k]! := by rw [getElem!_pos zs k (by omega)]; exact List.getElem?_eq_getElem (by omega)
    rw [prs_succ, List.filter_append, List.length_append, ih (by omega), cnt_succ hk]
    by_cases e : zs[k]! = id
    · rw [List.filter_cons_of_pos (by simpa using e), List.filter_nil, if_pos e]; rfl
    · rw [List.filter_cons_of_neg (by simpa using e), List.filter_nil, if_neg e]; rfl
set_option maxHeartbeats 8000000 in
set_option maxRecDepth 100000 in
theorem count_s (p : Value) (r m wd : Int) (A : Option Addr) (n c : Nat) (zs : List Int) (id : Int) (w : World) (h : IxAt w p r m wd A n c) (hS : Seqs w r m wd A n c zs) (hl : zs.length ≤ 100000) :
    Calls Try.prog 20 #[p, .int .i64 id] w fun e w' => e = .returned (.int .i64 (cnt zs id zs.length : Nat)) ∧ Below w.heap.size w w' := by
  obtain ⟨W1, hW1⟩ : ∃ W1, W1 = (w.alloc (.cells #[.int .i64 id] 3)).alloc (.cells #[.int .i64 0] 3) := ⟨_, rfl⟩
  have L1 := Lib.hid (show Row W1 w.heap.size 3 #[.int .i64 id] by rw [hW1]; exact (Row.new _ _ _).alloc _)
  have X1 := Lib.hid (show Row W1 (w.heap.size + 1) 3 #[.int .i64 0] by rw [hW1]; have := Row.new (w.alloc (.cells #[.int .i64 id] 3)) 3 #[.int .i64 0]; simpa using this)
  have B1 := Lib.hid (show Below w.heap.size w W1 by rw [hW1]; exact ((Below.refl _ _).alloc (Nat.le_refl _) _).alloc (by simp) _)
  have HA := Lib.hid (all_any p r m wd A n c W1 (h.step B1.out))
  have HS := Lib.hid hS
  have HL := Lib.hid hl
  clear h hS hl
  refine (callsIn_wide (n := 3)).1 ?_
  refine callsIn_of_wp_marks Try.func20 rfl trivial ?_ rfl
  refine wpIn_wide.2 ?_
  simp only [Try.ntmps20, List.size_toArray, List.length_cons, List.length_nil, Nat.reduceAdd, Nat.reduceSub, Array.replicate_succ, Array.replicate_zero, List.push_toArray, List.append_toArray, List.nil_append, List.cons_append]
  go_wp2_with (go_at_call 12; rw [← hW1]; refine HA.out.mono ?_; rintro e w2 ⟨Bs, rfl, hs, hr, b2⟩; have S2 := Lib.hid hs; have R2 := Lib.hid hr; have L2 := Lib.hid (L1.out.below b2 L1.out.lt); have X2 := Lib.hid (X1.out.below b2 X1.out.lt); have B2 := Lib.hid (B1.out.trans (b2.mono B1.out.size)); clear hs hr b2)
  have HLT := Lib.hid (show w.heap.size + 1 < Bs by have := S2.out; have := X1.out.lt; omega)
  refine (wpIn_wide (n := 3)).1 ?_
  refine range_two (n₀ := w.heap.size) (Bs := Bs) B2.out.size R2.out.lt rfl (enters_of Try.func31 (by kernel_rfl) rfl) (HS.out w2 Bs B2.out (by have := HLT.out; omega) R2.out) (Below.refl _ _)
    (fun xs W => Row W (w.heap.size + 1) 3 #[.int .i64 ((xs.filter fun x => x.2 == id).length : Int)] ∧ Row W w.heap.size 3 #[.int .i64 id] ∧ Below w.heap.size w W)
    (fun _ _ _ => False)
    (fun s X Y row hs hg hr => ⟨row_own (β := Unit) hs.1 hg (fun r e => (hr r e).2), row_own (β := Unit) hs.2.1 hg (fun r e => (hr r e).2), (ownFrom_below (β := List (Nat × Int)) (Nat.le_refl _) B2.out.size) s X Y row hs.2.2 hg hr⟩)
    (fun c => ownFrom_pure _ (fun _ => False)) ⟨X2.out, L2.out, B2.out⟩ (fun ts x => ((ts.setIfInBounds 10 (.int .i64 (x.1 : Int))).setIfInBounds 11 (.int .i64 x.2)).setIfInBounds 7 (.int .i64 x.2)) ?assign ?body ?done ?stop
  case assign =>
    intro l x W K hK
    gi_wp2
    exact hK
  case body =>
    rintro y pre ⟨i0, z⟩ W ⟨hX, hL, hB⟩ hpl
    obtain ⟨C, hC⟩ : ∃ C, (pre.filter fun x => x.2 == id).length = C := ⟨_, rfl⟩
    have hCs : C ≤ 100000 := by have h1 := List.length_filter_le (fun x : Nat × Int => x.2 == id) pre; have := HL.out; omega
    rw [hC] at hX
    have HX := Lib.hid hX
    have HLL := Lib.hid hL
    have HB := Lib.hid hB
    have HCC := Lib.hid hC
    have a0 := cell_row hX
    have f0 := hX.frozen 0
    have l0 := cell_row hL
    have ha := wrap_add1 (a := C) (by omega)
    clear hX hL hB hC hpl
    try simp only [List.setIfInBounds_toArray, List.set_cons_zero, List.set_cons_succ]
    by_cases he : z = id
    · have e0 : (z == id) = true := by simpa using he
      have HE := Lib.hid he
      clear he
      gi_wp2
      have hr := HX.out.set_ 0 (.int .i64 ((C + 1 : Nat) : Int))
      have hne : w.heap.size ≠ w.heap.size + 1 := by omega
      refine ⟨KeepsFrom.of_grownBy (grown_set W (w.heap.size + 1) 0 _) (fun j e => by injection e with e; have := X2.out.lt; omega), ⟨(Below.refl w.heap.size W).setCell (p := ⟨w.heap.size + 1, 0, none⟩) (Nat.le_succ _) _, Below.heap_setCell W ⟨w.heap.size + 1, 0, none⟩ _ _ (by have := HLT.out; show Bs ≠ w.heap.size + 1; omega)⟩, ?_, HLL.out.keep (Below.heap_setCell W ⟨w.heap.size + 1, 0, none⟩ _ _ hne), HB.out.setCell (p := ⟨w.heap.size + 1, 0, none⟩) (Nat.le_succ _) _⟩
      rw [List.filter_append, List.length_append, HCC.out, List.filter_cons_of_pos (by simpa using HE.out), List.filter_nil]
      exact hr
    · have e0 : (z == id) = false := by simpa using he
      have HE := Lib.hid he
      clear he
      gi_wp2
      refine ⟨KeepsFrom.refl _ _, KB.refl _ _ _, ?_, HLL.out, HB.out⟩
      rw [List.filter_append, List.length_append, HCC.out, List.filter_cons_of_neg (by simpa using HE.out), List.filter_nil]
      exact HX.out
  case done =>
    rintro D xs u hD hxs ⟨hX, hL, hB⟩ hK
    rw [hxs, cntp zs id _ (Nat.le_refl _)] at hX
    have a0 := cell_row hX
    have HK := Lib.hid hK
    have HB := Lib.hid hB
    clear hX hL hB hK hxs
    go_wp2
    have BF := HB.out.trans (belowK_b (w := w) (Nat.le_refl _) _ D _ (.deferred none) (Nat.le_trans B2.out.size hD) HK.out rfl rfl)
    exact leaves_mark (D := D) rfl HK.out (results_tmp rfl _ _ _) ⟨rfl, BF⟩
  case stop => exact fun D c pre W _ _ h _ => h.elim
end Go.Proofs.Ytpanfpcfhgnkoaa
