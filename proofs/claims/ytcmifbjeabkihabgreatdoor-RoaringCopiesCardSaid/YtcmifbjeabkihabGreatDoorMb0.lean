/- Walks: what a container of each kind does. -/
import Derived.Test.YtcmifbjeabkihabGreatDoorMa2
import Derived.Test.YtcmifbjeabkihabGreatDoorMa3
import Derived.Test.YtcmifbjeabkihabGreatDoorMa9
/- A set as its directory's entries: words for memory (entries of five cells, spans, numbers of 32 bits; a directory; a set). A file of lemmas. -/
namespace Go.Proofs.YtcmifbjeabkihabGreatDoor
open Go.RowKit
set_option linter.unusedVariables false

/-- A container's cells. -/
structure Bd where
  κ : Int
  A : Option Addr
  n : Nat
  c : Nat
  A2 : Option Addr
  n2 : Nat
  c2 : Nat
  A3 : Option Addr
  n3 : Nat
  c3 : Nat
@[reducible] def Bd.val (x : Bd) : Value := .agg #[.int .u8 x.κ, .slice x.A x.n x.c, .slice x.A2 x.n2 x.c2, .slice x.A3 x.n3 x.c3]
/-- An entry: a key and its container. -/
structure En where
  key : UInt16
  b : Bd
def zB : Bd := ⟨0, none, 0, 0, none, 0, 0, none, 0, 0⟩
def eN : ElemV En := { E := 61, n := 5, cs := fun e => [.int .u16 (e.key.toNat : Int), .int .u8 e.b.κ, .slice e.b.A e.b.n e.b.c, .slice e.b.A2 e.b.n2 e.b.c2, .slice e.b.A3 e.b.n3 e.b.c3], zero := ⟨0, zB⟩, bytes := 88, len := fun _ => rfl, pos := by omega, one := fun e u hu => by simp at hu; rcases hu with rfl | rfl | rfl | rfl | rfl <;> rfl, small := by omega }
theorem infN : (Tryz.prog.info? eN.E).map (fun i => (i.zero, i.size, i.bytes)) = some (some (eN.val eN.zero), eN.n, eN.bytes) := by kernel_rfl
theorem sliN : Tryz.prog.underlying 58 = some (.slice eN.E) := Tryz.underlying58
/-- Spans. -/
def eSp : Elem2 Sn := { E := 39, fst := fun s => .int .u64 s.1.toNat, snd := fun s => .int .u64 s.2.toNat, zero := (0, 0), bytes := 16, one1 := fun _ => rfl, one2 := fun _ => rfl, small := by omega }
theorem infSp : (Tryz.prog.info? eSp.E).map (fun i => (i.zero, i.size, i.bytes)) = some (some (eSp.val eSp.zero), 2, eSp.bytes) := by kernel_rfl
theorem sliSp : Tryz.prog.underlying 22 = some (.slice eSp.E) := Tryz.underlying22
/-- Numbers of 32 bits. -/
def b32 (b : UInt32) : Value := .int .u32 (b.toNat : Int)
def e32 : Elem UInt32 := ⟨23, b32, 0, 4, fun _ => rfl, fun _ => rfl, by omega⟩
theorem inf32 : (Tryz.prog.info? e32.E).map (fun i => (i.zero, i.size, i.bytes)) = some (some (e32.val e32.zero), 1, e32.bytes) := by kernel_rfl
theorem sli32 : Tryz.prog.underlying 35 = some (.slice e32.E) := Tryz.underlying35

/-- The entries of the set P whose keys are from lo on and below hi: all of them, rising, each with the canonical container of its numbers, its rows in blocks of which N says yes. -/
structure Dir (N : Nat → Prop) (w : World) (P : Nat → Bool) (lo hi : Nat) (es : List En) : Prop where
  ris : ris (es.map En.key) = true
  mem : ∀ e ∈ es, lo ≤ e.key.toNat ∧ e.key.toNat < hi ∧ nz P e.key.toNat = true ∧ Cn N w e.b.val (blk P e.key.toNat) (ck (blk P e.key.toNat))
  all : ∀ k, lo ≤ k → k < hi → nz P k = true → ∃ e ∈ es, e.key.toNat = k
section
variable {N N' : Nat → Prop} {w w' : World} {P Q : Nat → Bool} {lo hi mi k : Nat} {es fs : List En} {e : En}
theorem Dir.map (h : Dir N w P lo hi es) (hc : ∀ v p k, Cn N w v p k → Cn N' w' v p k) : Dir N' w' P lo hi es :=
  ⟨h.ris, fun e he => let ⟨a, b, c, d⟩ := h.mem e he; ⟨a, b, c, hc _ _ _ d⟩, h.all⟩
theorem Dir.keep (h : Dir N w P lo hi es) (hs : w.heap.size ≤ w'.heap.size) (hk : ∀ q : Addr, N q.block → q.block < w.heap.size → w'.cell? q = w.cell? q) : Dir N w' P lo hi es := h.map fun _ _ _ c => c.keep hs hk
theorem Dir.mono (h : Dir N w P lo hi es) (hN : ∀ b, b < w.heap.size → N b → N' b) : Dir N' w P lo hi es := h.map fun _ _ _ c => c.mono hN
theorem Dir.step (h : Dir N w P lo hi es) (b : Below w.heap.size w w') : Dir N w' P lo hi es := h.map fun _ _ _ c => c.step b
theorem Dir.grown {g : Nat} (h : Dir N w P lo hi es) (hg : w.grownBy w' (some g)) (hN : ¬ N g) : Dir N w' P lo hi es := h.map fun _ _ _ c => c.grown hg hN
theorem Dir.nil_ : Dir N w P lo lo [] := ⟨rfl, fun e h => (by cases h), fun k h1 h2 => by omega⟩
theorem Dir.skip (h : Dir N w P lo mi es) (hm : mi ≤ hi) (h0 : ∀ k, mi ≤ k → k < hi → nz P k = false) : Dir N w P lo hi es :=
  ⟨h.ris, fun e he => let ⟨a, b, c⟩ := h.mem e he; ⟨a, Nat.lt_of_lt_of_le b hm, c⟩, fun k h1 h2 h3 => by
    by_cases hk : k < mi
    · exact h.all k h1 hk h3
    · rw [h0 k (by omega) h2] at h3; cases h3⟩
theorem Dir.snoc (h : Dir N w P lo k es) (hl : lo ≤ k) (hk : e.key.toNat = k) (hn : nz P k = true) (hc : Cn N w e.b.val (blk P k) (ck (blk P k))) : Dir N w P lo (k + 1) (es ++ [e]) := by
  subst hk
  refine ⟨?_, fun x hx => ?_, fun k h1 h2 h3 => ?_⟩
  · rw [List.map_append]
    refine ris_app h.ris rfl fun x hx y hy => ?_
    obtain ⟨a, ha, rfl⟩ := List.mem_map.1 hx
    simp at hy
    subst hy
    exact (h.mem a ha).2.1
  · rw [List.mem_append] at hx
    rcases hx with hx | hx
    · obtain ⟨a, b, c⟩ := h.mem x hx
      exact ⟨a, by omega, c⟩
    · simp at hx; subst hx
      exact ⟨hl, by omega, hn, hc⟩
  · by_cases hk : k < e.key.toNat
    · obtain ⟨x, hx, hxk⟩ := h.all k h1 hk h3
      exact ⟨x, by simp [hx], hxk⟩
    · exact ⟨e, by simp, by omega⟩
theorem Dir.head (h : Dir N w P lo hi (e :: es)) : lo ≤ e.key.toNat ∧ e.key.toNat < hi ∧ nz P e.key.toNat = true ∧ Cn N w e.b.val (blk P e.key.toNat) (ck (blk P e.key.toNat)) := h.mem e (by simp)
theorem Dir.gap (h : Dir N w P lo hi (e :: es)) : ∀ k, lo ≤ k → k < e.key.toNat → nz P k = false := fun k h1 h2 => by
  cases hn : nz P k with
  | false => rfl
  | true =>
    obtain ⟨x, hx, hxk⟩ := h.all k h1 (by have := h.head.2.1; omega) hn
    rcases List.mem_cons.1 hx with rfl | hx
    · omega
    · have := ris_lt h.ris x.key (List.mem_map_of_mem hx)
      omega
theorem Dir.tail (h : Dir N w P lo hi (e :: es)) : Dir N w P (e.key.toNat + 1) hi es := by
  refine ⟨ris_tail h.ris, fun x hx => ?_, fun k h1 h2 h3 => ?_⟩
  · have := ris_lt h.ris x.key (List.mem_map_of_mem hx)
    obtain ⟨a, b, c⟩ := h.mem x (by simp [hx])
    exact ⟨by omega, b, c⟩
  · obtain ⟨x, hx, hxk⟩ := h.all k (by have := h.head.1; omega) h2 h3
    rcases List.mem_cons.1 hx with rfl | hx
    · omega
    · exact ⟨x, hx, hxk⟩
theorem Dir.none (h : Dir N w P lo hi []) : ∀ k, lo ≤ k → k < hi → nz P k = false := fun k h1 h2 => by
  cases hn : nz P k with
  | false => rfl
  | true => obtain ⟨x, hx, _⟩ := h.all k h1 h2 hn; cases hx
theorem Dir.ext (h : Dir N w P lo hi es) (he : ∀ x, lo ≤ x / 65536 → x / 65536 < hi → P x = Q x) : Dir N w Q lo hi es := by
  have e : ∀ k, lo ≤ k → k < hi → (nz P k = nz Q k ∧ ∀ x, x < 65536 → blk P k x = blk Q k x) := fun k h1 h2 =>
    ⟨nz_ext fun x hx => he x (by omega) (by omega), blk_ext fun x hx => he x (by omega) (by omega)⟩
  refine ⟨h.ris, fun x hx => ?_, fun k h1 h2 h3 => h.all k h1 h2 ((e k h1 h2).1.trans h3)⟩
  obtain ⟨a, b, c, d⟩ := h.mem x hx
  obtain ⟨e1, e2⟩ := e _ a b
  exact ⟨a, b, e1 ▸ c, by rw [← ck_ext e2]; exact d.ext e2⟩
theorem Dir.keys (h : Dir N w P 0 hi es) (hh : hi ≤ 65536) : es.map En.key = ls (nz P) hi :=
  ris_ext h.ris (ris_ls _ _ hh) fun z => by
    rw [ls_mem _ _ hh, List.mem_map]
    constructor
    · rintro ⟨a, ha, rfl⟩
      exact ⟨(h.mem a ha).2.1, (h.mem a ha).2.2.1⟩
    · rintro ⟨h1, h2⟩
      obtain ⟨a, ha, hk⟩ := h.all _ (Nat.zero_le _) h1 h2
      exact ⟨a, ha, u16_eq hk⟩
theorem ris_len {l : List UInt16} (h : ris l = true) : l.length ≤ 65536 := by
  rw [← ls_mk h]; exact ls_len _ _
theorem Dir.len (h : Dir N w P lo hi es) : es.length ≤ 65536 := by
  have := ris_len h.ris
  rwa [List.length_map] at this
theorem Dir.at_ (h : Dir N w P lo hi es) {i : Nat} (hi' : es[i]? = some e) : e ∈ es := List.mem_of_getElem? hi'
end

/-- All that lies where M says no is as it was. -/
structure Off (M : Nat → Prop) (w w' : World) : Prop where
  os : w'.os = w.os
  tape : w'.tape = w.tape
  output : w'.output = w.output
  size : w.heap.size ≤ w'.heap.size
  block : ∀ k, k < w.heap.size → ¬ M k → w'.heap[k]? = w.heap[k]?
theorem Off.below {M : Nat → Prop} {w w' : World} (h : Off M w w') {B : Nat} (hM : ∀ k, k < w.heap.size → M k → B ≤ k) (hB : B ≤ w.heap.size) : Below B w w' :=
  ⟨h.os, h.tape, h.output, h.size, fun k hk => h.block k (Nat.lt_of_lt_of_le hk hB) fun hm => absurd (hM k (Nat.lt_of_lt_of_le hk hB) hm) (by omega)⟩
theorem Off.of {M : Nat → Prop} {w w' : World} (h : Below w.heap.size w w') : Off M w w' := ⟨h.os, h.tape, h.output, h.size, fun k hk _ => h.block k hk⟩
theorem Off.trans {M M' M'' : Nat → Prop} {a b c : World} (h : Off M a b) (k : Off M' b c) (h1 : ∀ x, x < a.heap.size → M x → M'' x) (h2 : ∀ x, x < a.heap.size → M' x → M'' x) : Off M'' a c :=
  ⟨k.os.trans h.os, k.tape.trans h.tape, k.output.trans h.output, Nat.le_trans h.size k.size, fun x hx hm => (k.block x (Nat.lt_of_lt_of_le hx h.size) fun hm' => hm (h2 x hx hm')).trans (h.block x hx fun hm' => hm (h1 x hx hm'))⟩
theorem Off.mono {M M' : Nat → Prop} {a b : World} (h : Off M a b) (h1 : ∀ x, x < a.heap.size → M x → M' x) : Off M' a b := ⟨h.os, h.tape, h.output, h.size, fun x hx hm => h.block x hx fun hm' => hm (h1 x hx hm')⟩
theorem Off.grown {M : Nat → Prop} {g : Nat} {a b : World} (h : a.grownBy b (some g)) (h1 : g < a.heap.size → M g) : Off M a b :=
  ⟨h.os, h.tape, h.output, h.size, fun x hx hm => h.block x hx fun e => by injection e with e; subst e; exact hm (h1 hx)⟩
/-- Which blocks a set's rows may lie in: what was so stays so, new ones too, but for what has become a set's own. -/
structure Nx (N : Nat → Prop) (w : World) (N' : Nat → Prop) (w' : World) : Prop where
  old : ∀ x, x < w.heap.size → N x → N' x
  new : ∀ x, w'.heap.size ≤ x → N x → N' x
  sub : ∀ x, N' x → N x
theorem Nx.refl (N : Nat → Prop) (w w' : World) : Nx N w N w' := ⟨fun _ _ h => h, fun _ _ h => h, fun _ h => h⟩
theorem Nx.trans {N N' N'' : Nat → Prop} {a b c : World} (h : Nx N a N' b) (k : Nx N' b N'' c) (h1 : a.heap.size ≤ b.heap.size) (h2 : b.heap.size ≤ c.heap.size) : Nx N a N'' c :=
  ⟨fun x hx hn => k.old x (Nat.lt_of_lt_of_le hx h1) (h.old x hx hn), fun x hx hn => k.new x hx (h.new x (Nat.le_trans h2 hx) hn), fun x hn => h.sub x (k.sub x hn)⟩
theorem Nx.but {N : Nat → Prop} {w w' : World} (g : Nat) (h1 : w.heap.size ≤ g) (h2 : g < w'.heap.size) : Nx N w (fun x => N x ∧ x ≠ g) w' :=
  ⟨fun x hx hn => ⟨hn, by omega⟩, fun x hx hn => ⟨hn, by omega⟩, fun x hn => hn.1⟩
theorem Nx.all {N N' : Nat → Prop} {w w' : World} (h : Nx N w N' w') (hs : w.heap.size ≤ w'.heap.size) (hN : ∀ x, w.heap.size ≤ x → N x) : ∀ x, w'.heap.size ≤ x → N' x := fun x hx => h.new x hx (hN x (Nat.le_trans hs hx))

/-- A set that is being made: its box's block, the slice in the box, a slice of its own, which is nil where there is no entry, and its entries, of the keys below K; what is its own holds no rows. -/
structure Sx (N : Nat → Prop) (w : World) (v : Value) (P : Nat → Bool) (b K : Nat) (s : Value) (es : List En) : Prop where
  form : v = .pointer (some ⟨b, 0, none⟩)
  box : Row w b 64 #[s]
  arr : GwV eN w 0 s es
  nil : es = [] → s = .slice none 0 0
  dir : Dir N w P 0 K es
  nb : ¬ N b
  ns : ∀ g, s.ownBlock = some g → ¬ N g
  nbs : s.ownBlock ≠ some b
/-- A set, as it is read: one that is there, or is not. -/
inductive St (N : Nat → Prop) (w : World) : Value → (Nat → Bool) → Prop
  | none {P : Nat → Bool} (h : ∀ x, x < 4294967296 → P x = false) : St N w (.pointer none) P
  | some {P : Nat → Bool} (b : Nat) (s : Value) (es : List En) (hb : Row w b 64 #[s]) (hs : GsV eN w 0 w.heap.size s es) (hn : es = [] → s = .slice none 0 0) (hd : Dir N w P 0 65536 es) : St N w (.pointer (some ⟨b, 0, none⟩)) P
section
variable {N N' : Nat → Prop} {w w' : World} {P Q : Nat → Bool} {v s : Value} {b K : Nat} {es : List En}
theorem Sx.step (h : Sx N w v P b K s es) (hb : Below w.heap.size w w') : Sx N w' v P b K s es :=
  ⟨h.form, h.box.below hb h.box.lt, h.arr.below hb (Nat.le_refl _), h.nil, h.dir.step hb, h.nb, h.ns, h.nbs⟩
theorem Sx.nx (h : Sx N w v P b K s es) (hN : Nx N w N' w') : Sx N' w v P b K s es :=
  ⟨h.form, h.box, h.arr, h.nil, h.dir.mono hN.old, fun hn => h.nb (hN.sub _ hn), fun g hg hn => h.ns g hg (hN.sub _ hn), h.nbs⟩
theorem Sx.ext (h : Sx N w v P b K s es) (he : ∀ x, x / 65536 < K → P x = Q x) : Sx N w v Q b K s es := ⟨h.form, h.box, h.arr, h.nil, h.dir.ext fun x _ h2 => he x h2, h.nb, h.ns, h.nbs⟩
theorem Sx.skip {K' : Nat} (h : Sx N w v P b K s es) (hm : K ≤ K') (h0 : ∀ k, K ≤ k → k < K' → nz P k = false) : Sx N w v P b K' s es := ⟨h.form, h.box, h.arr, h.nil, h.dir.skip hm h0, h.nb, h.ns, h.nbs⟩
/-- It is kept where something else is written over. -/
theorem Sx.off {M : Nat → Prop} (h : Sx N w v P b K s es) (ho : Off M w w') (h1 : ¬ M b) (h2 : ∀ g, s.ownBlock = some g → ¬ M g) (hN : ∀ x, x < w.heap.size → N x → ¬ M x) : Sx N w' v P b K s es :=
  ⟨h.form, h.box.keep (ho.block b h.box.lt h1), by
    refine ⟨h.arr.1, ?_⟩
    rcases h.arr.2 with hn | ⟨g, cap, cur, e, hb, hg, r⟩
    · exact .inl hn
    · exact .inr ⟨g, cap, cur, e, hb, (ho.block g (Array.getElem?_eq_some_iff.1 hg).1 (h2 g (by rw [e]; rfl))).trans hg, r⟩, h.nil,
   h.dir.keep ho.size fun q hq hb => World.cell?_of_block (ho.block _ hb (hN _ hb hq)), h.nb, h.ns, h.nbs⟩
theorem Sx.st (h : Sx N w v P b 65536 s es) : St N w v P := by
  obtain rfl := h.form
  exact .some b s es h.box ((h.arr.sl).more (Nat.zero_le _) (Nat.le_refl _)) h.nil h.dir
theorem St.step (h : St N w v P) (hb : Below w.heap.size w w') : St N w' v P := by
  cases h with
  | none h => exact .none h
  | some b s es h1 h2 h3 h4 => exact .some b s es (h1.below hb h1.lt) (h2.step hb) h3 (h4.step hb)
theorem St.mono (h : St N w v P) (hN : ∀ b, b < w.heap.size → N b → N' b) : St N' w v P := by
  cases h with
  | none h => exact .none h
  | some b s es h1 h2 h3 h4 => exact .some b s es h1 h2 h3 (h4.mono hN)
theorem St.ext (h : St N w v P) (he : ∀ x, x < 4294967296 → P x = Q x) : St N w v Q := by
  cases h with
  | none h => exact .none fun x hx => (he x hx).symm.trans (h x hx)
  | some b s es h1 h2 h3 h4 => exact .some b s es h1 h2 h3 (h4.ext fun x _ h2 => he x (by omega))
end
end Go.Proofs.YtcmifbjeabkihabGreatDoor
/- Calls of arrays, words, runs and slices.Clone on a set: what is told lies in memory of its own. -/
namespace Go.Proofs.YtcmifbjeabkihabGreatDoor
open Go.RowKit
set_option linter.unusedVariables false

theorem bx (w : World) (o : Obj) : Below w.heap.size w (w.alloc o) := (Below.refl _ _).alloc (Nat.le_refl _) o
theorem ls_small (p : Nat → Bool) : (ls p 65536).length ≤ 65536 := ls_len p 65536

set_option maxHeartbeats 400000 in
theorem clone64_any (v : Value) (l : List UInt64) (lo : Nat) (w : World) (hv : Gs e64 w lo w.heap.size v l) (hb : l.length ≤ 100000000) :
    Calls Tryz.prog 213 #[v] w fun e w' => ∃ v', e = .returned v' ∧ Gw e64 w' w.heap.size v' l ∧ Below w.heap.size w w' := by
  have hv0 := hv
  obtain ⟨A, c, rfl, hc0, -, -, hbt⟩ := hv
  cases A with
  | none =>
    obtain rfl := hc0 rfl
    have hl : l = [] := by
      by_cases h : l = []
      · exact h
      · obtain ⟨b, off, e, _⟩ := hbt h
        cases e
    subst hl
    clear hc0 hbt hv0
    have hq := fun W n c => Lib.run_eql_slice_nil (P := Tryz.prog) W 52 37 none n c 0 0 Tryz.underlying52
    simp only [Option.isNone_none] at hq
    go_enter Tryz.func213, Tryz.ntmps213
    go_wp2
    go_ret
    exact ⟨_, rfl, Gw.nil_ _ _, Below.refl _ _⟩
  | some ad =>
    clear hc0 hbt
    have hq := fun W n c => Lib.run_eql_slice_nil (P := Tryz.prog) W 52 37 (some ad) n c 0 0 Tryz.underlying52
    simp only [Option.isNone_some] at hq
    go_enter Tryz.func213, Tryz.ntmps213
    go_wp2_with (at_builtin; refine wpList_gapp e64 _ rfl _ _ _ rfl w.heap.size sli64 inf64 _ [] rfl (Gw.empty_ _ _ (Nat.le_refl _)) lo w.heap.size _ l rfl (hv0.alloc (Nat.le_refl _) _) (by simp; omega) (by simp) ?_; intro v2 w2 o2 g2 _)
    go_ret
    exact ⟨v2, rfl, by simpa using o2, ((Below.refl _ _).alloc (Nat.le_refl _) _).grown g2 (by simp) (fun k h => by injection h with h; subst h; exact Nat.le_refl _)⟩
set_option maxHeartbeats 400000 in
theorem cloneR_any (v : Value) (l : List Rn) (lo : Nat) (w : World) (hv : Gs2 eR w lo w.heap.size v l) (hb : l.length ≤ 100000000) :
    Calls Tryz.prog 99 #[v] w fun e w' => ∃ v', e = .returned v' ∧ Gw2 eR w' w.heap.size v' l ∧ Below w.heap.size w w' := by
  have hv0 := hv
  obtain ⟨A, c, rfl, hc0, -, -, hbt⟩ := hv
  cases A with
  | none =>
    obtain rfl := hc0 rfl
    have hl : l = [] := by
      by_cases h : l = []
      · exact h
      · obtain ⟨b, off, e, _⟩ := hbt h
        cases e
    subst hl
    clear hc0 hbt hv0
    have hq := fun W n c => Lib.run_eql_slice_nil (P := Tryz.prog) W 53 85 none n c 0 0 Tryz.underlying53
    simp only [Option.isNone_none] at hq
    go_enter Tryz.func99, Tryz.ntmps99
    go_wp2
    go_ret
    exact ⟨_, rfl, Gw2.nil_ _ _, Below.refl _ _⟩
  | some ad =>
    clear hc0 hbt
    have hq := fun W n c => Lib.run_eql_slice_nil (P := Tryz.prog) W 53 85 (some ad) n c 0 0 Tryz.underlying53
    simp only [Option.isNone_some] at hq
    go_enter Tryz.func99, Tryz.ntmps99
    go_wp2_with (at_builtin; refine wpList_gapp2 eR _ rfl _ _ _ rfl w.heap.size sliR infR _ [] rfl (Gw2.empty_ _ _ (Nat.le_refl _)) lo w.heap.size _ l rfl (hv0.alloc (Nat.le_refl _) _) (by simp; omega) (by simp) ?_; intro v2 w2 o2 g2 _)
    go_ret
    exact ⟨v2, rfl, by simpa using o2, ((Below.refl _ _).alloc (Nat.le_refl _) _).grown g2 (by simp) (fun k h => by injection h with h; subst h; exact Nat.le_refl _)⟩

theorem sclone16 (v : Value) (p : Nat → Bool) (n : Nat) (lo : Nat) (w : World) (hv : Gs e16 w lo w.heap.size v (ls p 65536)) (hn : ct p 65536 = n) :
    Calls Tryz.prog 125 #[v] w fun e w' => ∃ A c, e = .returned (.slice A n c) ∧ Gs e16 w' w.heap.size w'.heap.size (.slice A n c) (ls p 65536) ∧ Below w.heap.size w w' := by
  refine (clone16_any v _ lo w hv (Nat.le_trans (ls_small p) (by omega))).mono ?_
  rintro e w' ⟨v', rfl, o, b⟩
  have s := o.sl
  obtain ⟨A, c, rfl, -⟩ := o.sl
  rw [ls_ct, hn] at s ⊢
  exact ⟨A, c, rfl, s, b⟩

theorem sclone64 (v : Value) (p : Nat → Bool) (lo : Nat) (w : World) (hv : Gs e64 w lo w.heap.size v (wm p)) :
    Calls Tryz.prog 213 #[v] w fun e w' => ∃ A c, e = .returned (.slice A 1024 c) ∧ Gs e64 w' w.heap.size w'.heap.size (.slice A 1024 c) (wm p) ∧ Below w.heap.size w w' := by
  refine (clone64_any v _ lo w hv (by rw [wm_length]; omega)).mono ?_
  rintro e w' ⟨v', rfl, o, b⟩
  obtain ⟨A, c, rfl⟩ := gw_wm o
  exact ⟨A, c, rfl, o.sl, b⟩

theorem scloneR (v : Value) (p : Nat → Bool) (n : Nat) (lo : Nat) (w : World) (hv : Gs2 eR w lo w.heap.size v (rs p 65536)) (hn : ct (hm p) 65536 = n) :
    Calls Tryz.prog 99 #[v] w fun e w' => ∃ A c, e = .returned (.slice A n c) ∧ Gs2 eR w' w.heap.size w'.heap.size (.slice A n c) (rs p 65536) ∧ Below w.heap.size w w' := by
  refine (cloneR_any v _ lo w hv (Nat.le_trans (rs_short p) (by omega))).mono ?_
  rintro e w' ⟨v', rfl, o, b⟩
  have s := o.sl
  obtain ⟨A, c, rfl, -⟩ := o.sl
  rw [rs_len, hn] at s ⊢
  exact ⟨A, c, rfl, s, b⟩

theorem swof (v : Value) (p : Nat → Bool) (lo : Nat) (w : World) (hv : Gs e16 w lo w.heap.size v (ls p 65536)) :
    Calls Tryz.prog 212 #[v] w fun e w' => ∃ A c, e = .returned (.slice A 1024 c) ∧ Gs e64 w' w.heap.size w'.heap.size (.slice A 1024 c) (wm p) ∧ Below w.heap.size w w' := by
  refine (wof_any v _ lo w hv).mono ?_
  rintro e w' ⟨v', rfl, o, b⟩
  rw [mk_words] at o
  obtain ⟨A, c, rfl⟩ := gw_wm o
  exact ⟨A, c, rfl, o.sl, b⟩

theorem srof (v : Value) (p : Nat → Bool) (n : Nat) (lo : Nat) (w : World) (hv : Gs e16 w lo w.heap.size v (ls p 65536)) (hn : ct (hm p) 65536 = n) :
    Calls Tryz.prog 129 #[v] w fun e w' => ∃ A c, e = .returned (.slice A n c) ∧ Gs2 eR w' w.heap.size w'.heap.size (.slice A n c) (rs p 65536) ∧ Below w.heap.size w w' := by
  refine (rof_any v _ w (hv.more (Nat.zero_le _) (Nat.le_refl _)) (Nat.le_trans (ls_small p) (by omega))).mono ?_
  rintro e w' ⟨v', rfl, o, b⟩
  rw [ofp_ls] at o
  have s := o.sl
  obtain ⟨A, c, rfl, -⟩ := o.sl
  rw [rs_len, hn] at s ⊢
  exact ⟨A, c, rfl, s, b⟩

theorem swlist (v : Value) (p : Nat → Bool) (n : Nat) (lo : Nat) (w : World) (hv : Gs e64 w lo w.heap.size v (wm p)) (hT : Tb w) (hn : ct p 65536 = n) :
    Calls Tryz.prog 130 #[v] w fun e w' => ∃ A c, e = .returned (.slice A n c) ∧ Gs e16 w' w.heap.size w'.heap.size (.slice A n c) (ls p 65536) ∧ Below w.heap.size w w' := by
  refine (wlist_any v _ lo w hv hT).mono ?_
  rintro e w' ⟨v', rfl, o, b⟩
  rw [ls_wb p (Nat.le_refl _)] at o
  have s := o.sl
  obtain ⟨A, c, rfl, -⟩ := o.sl
  rw [ls_ct, hn] at s ⊢
  exact ⟨A, c, rfl, s, b⟩

theorem srlist (v : Value) (p : Nat → Bool) (n : Nat) (lo : Nat) (w : World) (hv : Gs2 eR w lo w.heap.size v (rs p 65536)) (hn : ct p 65536 = n) :
    Calls Tryz.prog 211 #[v] w fun e w' => ∃ A c, e = .returned (.slice A n c) ∧ Gs e16 w' w.heap.size w'.heap.size (.slice A n c) (ls p 65536) ∧ Below w.heap.size w w' := by
  refine (rlist_any v _ w (hv.more (Nat.zero_le _) (Nat.le_refl _)) (mayr_rs p)).mono ?_
  rintro e w' ⟨v', rfl, o, b⟩
  rw [lists_rs] at o
  have s := o.sl
  obtain ⟨A, c, rfl, -⟩ := o.sl
  rw [ls_ct, hn] at s ⊢
  exact ⟨A, c, rfl, s, b⟩

theorem swflip (v : Value) (p : Nat → Bool) (x y : Int) (lo : Nat) (w : World) (hv : Gs e64 w lo w.heap.size v (wm p)) :
    Calls Tryz.prog 202 #[v, .int .i64 x, .int .i64 y] w fun e w' => ∃ A c, e = .returned (.slice A 1024 c) ∧ Gs e64 w' w.heap.size w'.heap.size (.slice A 1024 c) (wm (flp p x y)) ∧ Below w.heap.size w w' := by
  refine (wflip_any v _ lo x y w hv).mono ?_
  rintro e w' ⟨v', rfl, o, b⟩
  rw [flp_wb] at o
  obtain ⟨A, c, rfl⟩ := gw_wm o
  exact ⟨A, c, rfl, o.sl, b⟩

theorem srflip (v : Value) (p : Nat → Bool) (n : Nat) (x y : Int) (lo : Nat) (w : World) (hv : Gs2 eR w lo w.heap.size v (rs p 65536)) (hn : ct (hm (flp p x y)) 65536 = n) :
    Calls Tryz.prog 201 #[v, .int .i64 x, .int .i64 y] w fun e w' => ∃ A c, e = .returned (.slice A n c) ∧ Gs2 eR w' w.heap.size w'.heap.size (.slice A n c) (rs (flp p x y) 65536) ∧ Below w.heap.size w w' := by
  refine (rflip_any v _ x y w (hv.more (Nat.zero_le _) (Nat.le_refl _)) (Nat.le_trans (rs_short p) (by omega))).mono ?_
  rintro e w' ⟨v', rfl, o, b⟩
  rw [flr_rs] at o
  have s := o.sl
  obtain ⟨A, c, rfl, -⟩ := o.sl
  rw [rs_len, hn] at s ⊢
  exact ⟨A, c, rfl, s, b⟩

theorem swith (v : Value) (p : Nat → Bool) (n : Nat) (x : Nat) (lo : Nat) (w : World) (hv : Gs e16 w lo w.heap.size v (ls p 65536)) (hx : x < 65536) (hn : ct (pls p x) 65536 = n) :
    Calls Tryz.prog 114 #[v, .int .u16 x] w fun e w' => ∃ A c, e = .returned (.slice A n c) ∧ Gs e16 w' w.heap.size w'.heap.size (.slice A n c) (ls (pls p x) 65536) ∧ Below w.heap.size w w' := by
  refine (with_any v _ lo x (UInt16.ofNat x) (by rw [u16_of x hx]) w hv (Nat.le_trans (ls_small p) (by omega))).mono ?_
  rintro e w' ⟨v', rfl, o, b⟩
  rw [wi_pls (ris_ls p 65536 (Nat.le_refl _)) _ p rfl, u16_of x hx] at o
  have s := o.sl
  obtain ⟨A, c, rfl, -⟩ := o.sl
  rw [ls_ct, hn] at s ⊢
  exact ⟨A, c, rfl, s, b⟩

theorem sruns (v : Value) (p : Nat → Bool) (n lo : Nat) (w : World) (hv : Gs e16 w lo w.heap.size v (ls p 65536)) (hn : ct (hm p) 65536 = n) :
    Calls Tryz.prog 190 #[v] w fun e w' => e = .returned (.int .i64 n) ∧ Below w.heap.size w w' := aruns_p v p n w (hv.more (Nat.zero_le _) (Nat.le_refl _)) hn
theorem sfind (v : Value) (p : Nat → Bool) (x lo : Nat) (w : World) (hv : Gs e16 w lo w.heap.size v (ls p 65536)) (hx : x < 65536) :
    Calls Tryz.prog 109 #[v, .int .u16 x] w fun e w' => (∃ n : Nat, e = .returned (.tuple #[.int .i64 n, .bool (p x)])) ∧ Below w.heap.size w w' := by
  refine (find_any v _ lo _ x (UInt16.ofNat x) (by rw [u16_of x hx]) w hv (Nat.le_trans (ls_small p) (by omega))).mono ?_
  rintro e w' ⟨rfl, rfl⟩
  have e1 : fd (ls p 65536) (UInt16.ofNat x) = p x := by
    rw [fd_mem (ris_ls p 65536 (Nat.le_refl _)), Bool.eq_iff_iff, decide_eq_true_eq, ls_mem p 65536 (Nat.le_refl _), u16_of x hx]
    exact ⟨fun h => h.2, fun h => ⟨hx, h⟩⟩
  rw [e1]
  exact ⟨⟨_, rfl⟩, Below.refl _ _⟩
theorem swlen (v : Value) (p : Nat → Bool) (n lo : Nat) (w : World) (hv : Gs e64 w lo w.heap.size v (wm p)) (hn : ct p 65536 = n) :
    Calls Tryz.prog 143 #[v] w fun e w' => e = .returned (.int .i64 n) ∧ Below w.heap.size w w' := (wlen_p v p n w (hv.more (Nat.zero_le _) (Nat.le_refl _)) hn).mono fun e w' ⟨h1, h2⟩ => ⟨h1, h2 ▸ Below.refl _ _⟩
theorem swruns (v : Value) (p : Nat → Bool) (n lo : Nat) (w : World) (hv : Gs e64 w lo w.heap.size v (wm p)) (hn : ct (hm p) 65536 = n) :
    Calls Tryz.prog 191 #[v] w fun e w' => e = .returned (.int .i64 n) ∧ Below w.heap.size w w' := (wruns_p v p n w (hv.more (Nat.zero_le _) (Nat.le_refl _)) hn).mono fun e w' ⟨h1, h2⟩ => ⟨h1, h2 ▸ Below.refl _ _⟩
theorem swhas (v : Value) (p : Nat → Bool) (x lo : Nat) (w : World) (hv : Gs e64 w lo w.heap.size v (wm p)) (hx : x < 65536) :
    Calls Tryz.prog 110 #[v, .int .u16 x] w fun e w' => e = .returned (.bool (p x)) ∧ Below w.heap.size w w' := (whas_p v p x x w (hv.more (Nat.zero_le _) (Nat.le_refl _)) rfl hx).mono fun e w' ⟨h1, h2⟩ => ⟨h1, h2 ▸ Below.refl _ _⟩
theorem srlen (v : Value) (p : Nat → Bool) (n lo : Nat) (w : World) (hv : Gs2 eR w lo w.heap.size v (rs p 65536)) (hn : ct p 65536 = n) :
    Calls Tryz.prog 144 #[v] w fun e w' => e = .returned (.int .i64 n) ∧ Below w.heap.size w w' := rlen_any v _ n w (hv.more (Nat.zero_le _) (Nat.le_refl _)) (mayr_rs p) (by rw [count_rs]; exact hn)
theorem srhas (v : Value) (p : Nat → Bool) (x lo : Nat) (w : World) (hv : Gs2 eR w lo w.heap.size v (rs p 65536)) (hx : x < 65536) :
    Calls Tryz.prog 111 #[v, .int .u16 x] w fun e w' => e = .returned (.bool (p x)) ∧ Below w.heap.size w w' := by
  have h := rhas_any v _ x w (hv.more (Nat.zero_le _) (Nat.le_refl _)) (mayr_rs p) (Nat.le_trans (rs_short p) (by omega)) hx
  rw [mr_rs p hx] at h
  exact h
end Go.Proofs.YtcmifbjeabkihabGreatDoor
namespace Go.Proofs.YtcmifbjeabkihabGreatDoor
open Go.RowKit
set_option linter.unusedVariables false

theorem Gs.stp {α : Type} {k : Elem α} {w w' : World} {lo : Nat} {v : Value} {l : List α} (h : Gs k w lo w.heap.size v l) (b : Below w.heap.size w w') : Gs k w' lo w'.heap.size v l := (h.below b).more (Nat.le_refl _) b.size
theorem Gs2.stp {w w' : World} {lo : Nat} {v : Value} {l : List Rn} (h : Gs2 eR w lo w.heap.size v l) (b : Below w.heap.size w w') : Gs2 eR w' lo w'.heap.size v l := (h.below b).more (Nat.le_refl _) b.size

theorem arrayRunCount_c (p : Nat → Bool) (κ : Int) (A : Option Addr) (n c : Nat) (m : Nat) (lo : Nat) (w : World) (hm2 : ct (hm p) 65536 = m) (h : Gs e16 w lo w.heap.size (.slice A n c) (ls p 65536)) :
    Calls Tryz.prog 147 #[.agg #[.int .u8 κ, .slice A n c, .slice none 0 0, .slice none 0 0]] w fun e w' => e = .returned (.int .i64 m) ∧ Below w.heap.size w w' := by
  have H := Lib.hid h
  clear h
  go_enter Tryz.func147, Tryz.ntmps147
  go_wp2_with fail
  refine (sruns _ p m lo _ (H.out.stp (bx w _)) hm2).mono ?_
  rintro e w1 ⟨rfl, b1⟩
  have B1 := Lib.hid (below_both (bx w _) b1)
  clear b1
  go_wp2
  go_ret
  exact ⟨rfl, B1.out⟩

theorem arrayHas_c (p : Nat → Bool) (κ : Int) (A : Option Addr) (n c : Nat) (x : Nat) (lo : Nat) (w : World) (hx : x < 65536) (h : Gs e16 w lo w.heap.size (.slice A n c) (ls p 65536)) :
    Calls Tryz.prog 63 #[.agg #[.int .u8 κ, .slice A n c, .slice none 0 0, .slice none 0 0], .int .u16 x] w fun e w' => e = .returned (.bool (p x)) ∧ Below w.heap.size w w' := by
  have H := Lib.hid h
  clear h
  go_enter Tryz.func63, Tryz.ntmps63
  go_wp2_with fail
  refine (sfind _ p x lo _ (H.out.stp (bx w _)) hx).mono ?_
  rintro e w1 ⟨⟨_, rfl⟩, b1⟩
  have B1 := Lib.hid (below_both (bx w _) b1)
  clear b1
  go_wp2
  go_ret
  exact ⟨rfl, B1.out⟩

theorem arrayCopy_c (p : Nat → Bool) (κ : Int) (A : Option Addr) (n c : Nat) (m : Nat) (hm2 : ct p 65536 = m) (lo : Nat) (w : World) (h : Gs e16 w lo w.heap.size (.slice A n c) (ls p 65536)) :
    Calls Tryz.prog 192 #[.agg #[.int .u8 κ, .slice A n c, .slice none 0 0, .slice none 0 0]] w fun e w' => ∃ A' c', e = .returned (.slice A' m c') ∧ Gs e16 w' w.heap.size w'.heap.size (.slice A' m c') (ls p 65536) ∧ Below w.heap.size w w' := by
  have H := Lib.hid h
  clear h
  go_enter Tryz.func192, Tryz.ntmps192
  go_wp2_with fail
  refine (sclone16 _ p m lo _ (H.out.stp (bx w _)) hm2).mono ?_
  rintro e w1 ⟨A1, c1, rfl, g1, b1⟩
  have G1 := Lib.hid g1
  have B1 := Lib.hid (below_both (bx w _) b1)
  have hs : w.heap.size ≤ (w.alloc (.cells #[] 0)).heap.size := by simp
  clear g1 b1
  go_wp2
  go_ret
  exact ⟨_, _, rfl, G1.out.more (by simp) (Nat.le_refl _), B1.out⟩

theorem arrayToWords_c (p : Nat → Bool) (κ : Int) (A : Option Addr) (n c : Nat)  (lo : Nat) (w : World) (h : Gs e16 w lo w.heap.size (.slice A n c) (ls p 65536)) :
    Calls Tryz.prog 195 #[.agg #[.int .u8 κ, .slice A n c, .slice none 0 0, .slice none 0 0]] w fun e w' => ∃ A' c', e = .returned (.slice A' 1024 c') ∧ Gs e64 w' w.heap.size w'.heap.size (.slice A' 1024 c') (wm p) ∧ Below w.heap.size w w' := by
  have H := Lib.hid h
  clear h
  go_enter Tryz.func195, Tryz.ntmps195
  go_wp2_with fail
  refine (swof _ p lo _ (H.out.stp (bx w _))).mono ?_
  rintro e w1 ⟨A1, c1, rfl, g1, b1⟩
  have G1 := Lib.hid g1
  have B1 := Lib.hid (below_both (bx w _) b1)
  have hs : w.heap.size ≤ (w.alloc (.cells #[] 0)).heap.size := by simp
  clear g1 b1
  go_wp2
  go_ret
  exact ⟨_, _, rfl, G1.out.more (by simp) (Nat.le_refl _), B1.out⟩

theorem arrayToRuns_c (p : Nat → Bool) (κ : Int) (A : Option Addr) (n c : Nat) (m : Nat) (hm2 : ct (hm p) 65536 = m) (lo : Nat) (w : World) (h : Gs e16 w lo w.heap.size (.slice A n c) (ls p 65536)) :
    Calls Tryz.prog 85 #[.agg #[.int .u8 κ, .slice A n c, .slice none 0 0, .slice none 0 0]] w fun e w' => ∃ A' c', e = .returned (.slice A' m c') ∧ Gs2 eR w' w.heap.size w'.heap.size (.slice A' m c') (rs p 65536) ∧ Below w.heap.size w w' := by
  have H := Lib.hid h
  clear h
  go_enter Tryz.func85, Tryz.ntmps85
  go_wp2_with fail
  refine (srof _ p m lo _ (H.out.stp (bx w _)) hm2).mono ?_
  rintro e w1 ⟨A1, c1, rfl, g1, b1⟩
  have G1 := Lib.hid g1
  have B1 := Lib.hid (below_both (bx w _) b1)
  have hs : w.heap.size ≤ (w.alloc (.cells #[] 0)).heap.size := by simp
  clear g1 b1
  go_wp2
  go_ret
  exact ⟨_, _, rfl, G1.out.more (by simp) (Nat.le_refl _), B1.out⟩

theorem wordsLen_c (p : Nat → Bool) (A : Option Addr) (c : Nat) (m : Nat) (lo : Nat) (w : World) (hm2 : ct p 65536 = m) (h : Gs e64 w lo w.heap.size (.slice A 1024 c) (wm p)) :
    Calls Tryz.prog 95 #[.agg #[.int .u8 2, .slice none 0 0, .slice A 1024 c, .slice none 0 0]] w fun e w' => e = .returned (.int .i64 m) ∧ Below w.heap.size w w' := by
  have H := Lib.hid h
  clear h
  go_enter Tryz.func95, Tryz.ntmps95
  go_wp2_with fail
  refine (swlen _ p m lo _ (H.out.stp (bx w _)) hm2).mono ?_
  rintro e w1 ⟨rfl, b1⟩
  have B1 := Lib.hid (below_both (bx w _) b1)
  clear b1
  go_wp2
  go_ret
  exact ⟨rfl, B1.out⟩

theorem wordsRunCount_c (p : Nat → Bool) (A : Option Addr) (c : Nat) (m : Nat) (lo : Nat) (w : World) (hm2 : ct (hm p) 65536 = m) (h : Gs e64 w lo w.heap.size (.slice A 1024 c) (wm p)) :
    Calls Tryz.prog 148 #[.agg #[.int .u8 2, .slice none 0 0, .slice A 1024 c, .slice none 0 0]] w fun e w' => e = .returned (.int .i64 m) ∧ Below w.heap.size w w' := by
  have H := Lib.hid h
  clear h
  go_enter Tryz.func148, Tryz.ntmps148
  go_wp2_with fail
  refine (swruns _ p m lo _ (H.out.stp (bx w _)) hm2).mono ?_
  rintro e w1 ⟨rfl, b1⟩
  have B1 := Lib.hid (below_both (bx w _) b1)
  clear b1
  go_wp2
  go_ret
  exact ⟨rfl, B1.out⟩

theorem wordsHave_c (p : Nat → Bool) (A : Option Addr) (c : Nat) (x : Nat) (lo : Nat) (w : World) (hx : x < 65536) (h : Gs e64 w lo w.heap.size (.slice A 1024 c) (wm p)) :
    Calls Tryz.prog 64 #[.agg #[.int .u8 2, .slice none 0 0, .slice A 1024 c, .slice none 0 0], .int .u16 x] w fun e w' => e = .returned (.bool (p x)) ∧ Below w.heap.size w w' := by
  have H := Lib.hid h
  clear h
  go_enter Tryz.func64, Tryz.ntmps64
  go_wp2_with fail
  refine (swhas _ p x lo _ (H.out.stp (bx w _)) hx).mono ?_
  rintro e w1 ⟨rfl, b1⟩
  have B1 := Lib.hid (below_both (bx w _) b1)
  clear b1
  go_wp2
  go_ret
  exact ⟨rfl, B1.out⟩

theorem wordsToArray_c (p : Nat → Bool) (A : Option Addr) (c : Nat) (m : Nat) (hm2 : ct p 65536 = m) (lo : Nat) (w : World) (hT : Tb w) (h : Gs e64 w lo w.heap.size (.slice A 1024 c) (wm p)) :
    Calls Tryz.prog 193 #[.agg #[.int .u8 2, .slice none 0 0, .slice A 1024 c, .slice none 0 0]] w fun e w' => ∃ A' c', e = .returned (.slice A' m c') ∧ Gs e16 w' w.heap.size w'.heap.size (.slice A' m c') (ls p 65536) ∧ Below w.heap.size w w' := by
  have H := Lib.hid h
  have TT := Lib.hid hT
  clear h
  go_enter Tryz.func193, Tryz.ntmps193
  go_wp2_with fail
  refine (swlist _ p m lo _ (H.out.stp (bx w _)) (TT.out.step (bx w _)) hm2).mono ?_
  rintro e w1 ⟨A1, c1, rfl, g1, b1⟩
  have G1 := Lib.hid g1
  have B1 := Lib.hid (below_both (bx w _) b1)
  have hs : w.heap.size ≤ (w.alloc (.cells #[] 0)).heap.size := by simp
  clear g1 b1
  go_wp2
  go_ret
  exact ⟨_, _, rfl, G1.out.more (by simp) (Nat.le_refl _), B1.out⟩

theorem wordsCopy_c (p : Nat → Bool) (A : Option Addr) (c : Nat)  (lo : Nat) (w : World) (h : Gs e64 w lo w.heap.size (.slice A 1024 c) (wm p)) :
    Calls Tryz.prog 196 #[.agg #[.int .u8 2, .slice none 0 0, .slice A 1024 c, .slice none 0 0]] w fun e w' => ∃ A' c', e = .returned (.slice A' 1024 c') ∧ Gs e64 w' w.heap.size w'.heap.size (.slice A' 1024 c') (wm p) ∧ Below w.heap.size w w' := by
  have H := Lib.hid h
  clear h
  go_enter Tryz.func196, Tryz.ntmps196
  go_wp2_with fail
  refine (sclone64 _ p lo _ (H.out.stp (bx w _))).mono ?_
  rintro e w1 ⟨A1, c1, rfl, g1, b1⟩
  have G1 := Lib.hid g1
  have B1 := Lib.hid (below_both (bx w _) b1)
  have hs : w.heap.size ≤ (w.alloc (.cells #[] 0)).heap.size := by simp
  clear g1 b1
  go_wp2
  go_ret
  exact ⟨_, _, rfl, G1.out.more (by simp) (Nat.le_refl _), B1.out⟩

theorem wordsToRuns_c (p : Nat → Bool) (A : Option Addr) (c : Nat) (m : Nat) (hm2 : ct (hm p) 65536 = m) (lo : Nat) (w : World) (hT : Tb w) (h : Gs e64 w lo w.heap.size (.slice A 1024 c) (wm p)) :
    Calls Tryz.prog 86 #[.agg #[.int .u8 2, .slice none 0 0, .slice A 1024 c, .slice none 0 0]] w fun e w' => ∃ A' c', e = .returned (.slice A' m c') ∧ Gs2 eR w' w.heap.size w'.heap.size (.slice A' m c') (rs p 65536) ∧ Below w.heap.size w w' := by
  have H := Lib.hid h
  have TT := Lib.hid hT
  clear h
  go_enter Tryz.func86, Tryz.ntmps86
  go_wp2_with fail
  refine (swlist _ p (ct p 65536) lo _ (H.out.stp (bx w _)) (TT.out.step (bx w _)) rfl).mono ?_
  rintro e w1 ⟨A1, c1, rfl, g1, b1⟩
  have G1 := Lib.hid g1
  have B1 := Lib.hid (below_both (bx w _) b1)
  clear g1 b1
  go_wp2_with fail
  refine (srof _ p m _ _ G1.out hm2).mono ?_
  rintro e w2 ⟨A2, c2, rfl, g2, b2⟩
  have G2 := Lib.hid g2
  have B2 := Lib.hid (below_both B1.out b2)
  have hs := B1.out.size
  clear g2 b2
  go_wp2
  go_ret
  exact ⟨_, _, rfl, G2.out.more hs (Nat.le_refl _), B2.out⟩

theorem runsLen_c (p : Nat → Bool) (A : Option Addr) (n c : Nat) (m : Nat) (lo : Nat) (w : World) (hm2 : ct p 65536 = m) (h : Gs2 eR w lo w.heap.size (.slice A n c) (rs p 65536)) :
    Calls Tryz.prog 96 #[.agg #[.int .u8 3, .slice none 0 0, .slice none 0 0, .slice A n c]] w fun e w' => e = .returned (.int .i64 m) ∧ Below w.heap.size w w' := by
  have H := Lib.hid h
  clear h
  go_enter Tryz.func96, Tryz.ntmps96
  go_wp2_with fail
  refine (srlen _ p m lo _ (H.out.stp (bx w _)) hm2).mono ?_
  rintro e w1 ⟨rfl, b1⟩
  have B1 := Lib.hid (below_both (bx w _) b1)
  clear b1
  go_wp2
  go_ret
  exact ⟨rfl, B1.out⟩

theorem runsHave_c (p : Nat → Bool) (A : Option Addr) (n c : Nat) (x : Nat) (lo : Nat) (w : World) (hx : x < 65536) (h : Gs2 eR w lo w.heap.size (.slice A n c) (rs p 65536)) :
    Calls Tryz.prog 65 #[.agg #[.int .u8 3, .slice none 0 0, .slice none 0 0, .slice A n c], .int .u16 x] w fun e w' => e = .returned (.bool (p x)) ∧ Below w.heap.size w w' := by
  have H := Lib.hid h
  clear h
  go_enter Tryz.func65, Tryz.ntmps65
  go_wp2_with fail
  refine (srhas _ p x lo _ (H.out.stp (bx w _)) hx).mono ?_
  rintro e w1 ⟨rfl, b1⟩
  have B1 := Lib.hid (below_both (bx w _) b1)
  clear b1
  go_wp2
  go_ret
  exact ⟨rfl, B1.out⟩

theorem runsToArray_c (p : Nat → Bool) (A : Option Addr) (n c : Nat) (m : Nat) (hm2 : ct p 65536 = m) (lo : Nat) (w : World) (h : Gs2 eR w lo w.heap.size (.slice A n c) (rs p 65536)) :
    Calls Tryz.prog 194 #[.agg #[.int .u8 3, .slice none 0 0, .slice none 0 0, .slice A n c]] w fun e w' => ∃ A' c', e = .returned (.slice A' m c') ∧ Gs e16 w' w.heap.size w'.heap.size (.slice A' m c') (ls p 65536) ∧ Below w.heap.size w w' := by
  have H := Lib.hid h
  clear h
  go_enter Tryz.func194, Tryz.ntmps194
  go_wp2_with fail
  refine (srlist _ p m lo _ (H.out.stp (bx w _)) hm2).mono ?_
  rintro e w1 ⟨A1, c1, rfl, g1, b1⟩
  have G1 := Lib.hid g1
  have B1 := Lib.hid (below_both (bx w _) b1)
  have hs : w.heap.size ≤ (w.alloc (.cells #[] 0)).heap.size := by simp
  clear g1 b1
  go_wp2
  go_ret
  exact ⟨_, _, rfl, G1.out.more (by simp) (Nat.le_refl _), B1.out⟩

theorem runsToWords_c (p : Nat → Bool) (A : Option Addr) (n c : Nat)  (lo : Nat) (w : World) (h : Gs2 eR w lo w.heap.size (.slice A n c) (rs p 65536)) :
    Calls Tryz.prog 197 #[.agg #[.int .u8 3, .slice none 0 0, .slice none 0 0, .slice A n c]] w fun e w' => ∃ A' c', e = .returned (.slice A' 1024 c') ∧ Gs e64 w' w.heap.size w'.heap.size (.slice A' 1024 c') (wm p) ∧ Below w.heap.size w w' := by
  have H := Lib.hid h
  clear h
  go_enter Tryz.func197, Tryz.ntmps197
  go_wp2_with fail
  refine (srlist _ p (ct p 65536) lo _ (H.out.stp (bx w _)) rfl).mono ?_
  rintro e w1 ⟨A1, c1, rfl, g1, b1⟩
  have G1 := Lib.hid g1
  have B1 := Lib.hid (below_both (bx w _) b1)
  clear g1 b1
  go_wp2_with fail
  refine (swof _ p _ _ G1.out).mono ?_
  rintro e w2 ⟨A2, c2, rfl, g2, b2⟩
  have G2 := Lib.hid g2
  have B2 := Lib.hid (below_both B1.out b2)
  have hs := B1.out.size
  clear g2 b2
  go_wp2
  go_ret
  exact ⟨_, _, rfl, G2.out.more hs (Nat.le_refl _), B2.out⟩

theorem runsCopy_c (p : Nat → Bool) (A : Option Addr) (n c : Nat) (m : Nat) (hm2 : ct (hm p) 65536 = m) (lo : Nat) (w : World) (h : Gs2 eR w lo w.heap.size (.slice A n c) (rs p 65536)) :
    Calls Tryz.prog 87 #[.agg #[.int .u8 3, .slice none 0 0, .slice none 0 0, .slice A n c]] w fun e w' => ∃ A' c', e = .returned (.slice A' m c') ∧ Gs2 eR w' w.heap.size w'.heap.size (.slice A' m c') (rs p 65536) ∧ Below w.heap.size w w' := by
  have H := Lib.hid h
  clear h
  go_enter Tryz.func87, Tryz.ntmps87
  go_wp2_with fail
  refine (scloneR _ p m lo _ (H.out.stp (bx w _)) hm2).mono ?_
  rintro e w1 ⟨A1, c1, rfl, g1, b1⟩
  have G1 := Lib.hid g1
  have B1 := Lib.hid (below_both (bx w _) b1)
  have hs : w.heap.size ≤ (w.alloc (.cells #[] 0)).heap.size := by simp
  clear g1 b1
  go_wp2
  go_ret
  exact ⟨_, _, rfl, G1.out.more (by simp) (Nat.le_refl _), B1.out⟩

theorem runsRunCount_c (A : Option Addr) (n c : Nat) (w : World) :
    Calls Tryz.prog 149 #[.agg #[.int .u8 3, .slice none 0 0, .slice none 0 0, .slice A n c]] w fun e w' => e = .returned (.int .i64 n) ∧ Below w.heap.size w w' := by
  go_enter Tryz.func149, Tryz.ntmps149
  go_wp2
  go_ret
  exact ⟨rfl, bx w _⟩
end Go.Proofs.YtcmifbjeabkihabGreatDoor
