/- Walks: two directories side by side. -/
import Derived.Test.YtcmifbjeabkihabGreatDoorMb5
import Derived.Test.YtcmifbjeabkihabGreatDoorMc2
import Derived.BigQuiet
import Derived.Deep.QuietTactic
namespace Go.Proofs.YtcmifbjeabkihabGreatDoor
open Go.RowKit
set_option linter.unusedVariables false

theorem entries_at {N : Nat → Prop} (v : Value) (P : Nat → Bool) (w0 w : World) (h : St N w0 v P) (hb : Below w0.heap.size w0 w) :
    Calls Tryz.prog 30 #[v] w fun e w' => ∃ A n c es, e = .returned (.slice A n c) ∧ w' = w ∧ GsV eN w0 0 w0.heap.size (.slice A n c) es ∧ Dir N w0 P 0 65536 es := by
  cases h with
  | none h =>
    refine (entries_c (N := N) (.pointer none) P w (.none h)).mono ?_
    rintro e w' ⟨A, n, c, es, rfl, rfl, g, d⟩
    have he : es = [] := by
      cases es with
      | nil => rfl
      | cons e es => have := d.head; rw [nz_not.2 (fun x hx => h _ (by omega))] at this; cases this.2.2.1
    subst he
    have D : Dir N w0 P 0 65536 [] := (Dir.nil_ (N := N) (w := w0) (P := P) (lo := 0)).skip (by omega) fun k _ hk => nz_not.2 fun x hx => h _ (by omega)
    obtain ⟨A', c', e, h0, h1, h2, _⟩ := g
    exact ⟨_, _, _, [], rfl, rfl, ⟨A', c', e, h0, h1, h2, fun h => absurd rfl h⟩, D⟩
  | some b s es hr hs hn hd =>
    have HS := Lib.hid hs
    obtain ⟨A, c, rfl, -⟩ := hs
    refine (entries_box b A es.length c w (hr.below hb hr.lt)).mono ?_
    rintro e w' ⟨rfl, rfl⟩
    exact ⟨_, _, _, es, rfl, rfl, HS.out, hd⟩
def lenOf : Value → Nat
  | .slice _ n _ => n
  | _ => 0
theorem GsV.tail_ {w : World} {lo hi : Nat} {b off c m : Nat} {e : En} {l : List En} (h : GsV eN w lo hi (.slice (some ⟨b, off, none⟩) m c) (e :: l)) : GsV eN w lo hi (.slice (if c = 1 then some ⟨b, off, none⟩ else some ⟨b, off + 5, none⟩) (m - 1) (c - 1)) l := by
  obtain ⟨A, c', e1, h0, h1, h2, hb⟩ := h
  injection e1 with e1 e2 e3
  subst e1 e3
  rw [List.length_cons] at e2 h1
  obtain rfl : m = l.length + 1 := by omega
  by_cases hc1 : c = 1
  · have hl : l = [] := List.eq_nil_of_length_eq_zero (by omega)
    subst hl
    rw [if_pos hc1]
    exact ⟨_, _, rfl, fun e => (by cases e), by simp, by omega, fun h => absurd rfl h⟩
  · rw [if_neg hc1]
    refine ⟨_, _, rfl, fun e => (by cases e), by omega, by omega, fun hl => ?_⟩
    obtain ⟨b', off', e3, x1, x2, hc⟩ := hb (by simp)
    injection e3 with e3
    injection e3 with e4 e5 e6
    subst e4 e5
    refine ⟨b, off + 5, rfl, x1, x2, fun j x hx i u hu => ?_⟩
    have := hc (j + 1) x (by simpa using hx) i u hu
    rw [show off + (eN.n * (j + 1) + i) = off + 5 + (eN.n * j + i) by show off + (5 * (j + 1) + i) = off + 5 + (5 * j + i); omega] at this
    exact this
/-- What tells of two containers of one key. -/
structure Both (f : Bool → Bool → Bool) (F : FuncId) : Prop where
  ent : Enters Tryz.prog F
  zero : f false false = false
  run : ∀ (N : Nat → Prop) (v u : Value) (p q : Nat → Bool) (k j : Nat) (w : World), Tb w → (∀ b, w.heap.size ≤ b → N b) → Cn N w v p k → Cn N w u q j →
    Calls Tryz.prog F #[v, u] w fun e w' => ∃ v', e = .returned v' ∧ Cn N w' v' (fun x => f (p x) (q x)) (ck (fun x => f (p x) (q x))) ∧ Below w.heap.size w w'
theorem both_or : Both fOr 45 := ⟨enters_of Tryz.func45 (by kernel_rfl) rfl, rfl, fun N v u p q k j w hT hN h g => cor v u p q k j w hT hN h g⟩
theorem both_not : Both fNot 39 := ⟨enters_of Tryz.func39 (by kernel_rfl) rfl, rfl, fun N v u p q k j w hT hN h g => cnot v u p q k j w hT hN h g⟩
theorem both_xor : Both fXor 59 := ⟨enters_of Tryz.func59 (by kernel_rfl) rfl, rfl, fun N v u p q k j w hT hN h g => cxor v u p q k j w hT hN h g⟩
/-- What a set that is being made has become. -/
def Put (N : Nat → Prop) (v : Value) (R : Nat → Bool) (b K' : Nat) (s : Value) (w w' : World) : Prop :=
  (∃ N' s' es', Sx N' w' v R b K' s' es' ∧ Nx N w N' w' ∧ (s'.ownBlock = s.ownBlock ∨ ∃ g, s'.ownBlock = some g ∧ w.heap.size ≤ g)) ∧ Off (fun x => x = b ∨ s.ownBlock = some x) w w'
theorem putIf_c {N : Nat → Prop} (v s : Value) (R : Nat → Bool) (b K y : Nat) (es : List En) (x : Bd) (stay : Bool) (w : World) (S : Sx N w v R b K s es) (hk : K ≤ y) (hy : y < 65536) (gap : ∀ j, K ≤ j → j < y → nz R j = false)
    (h1 : stay = true → nz R y = true ∧ Cn N w x.val (blk R y) (ck (blk R y))) (h0 : stay = false → nz R y = false) :
    Calls Tryz.prog 75 #[v, .bool stay, .agg #[.int .u16 y, .int .u8 x.κ, .slice x.A x.n x.c, .slice x.A2 x.n2 x.c2, .slice x.A3 x.n3 x.c3]] w fun e w' => e = .returned (.tuple #[]) ∧ Put N v R b (y + 1) s w w' := by
  cases stay with
  | true => exact putIf_yes v s R b K y es x w S hk hy gap (h1 rfl).1 (h1 rfl).2
  | false =>
    refine (putIf_no v y x w).mono ?_
    rintro e w' ⟨rfl, hb⟩
    refine ⟨rfl, ⟨N, s, es, (S.step hb).skip (by omega) fun j h2 h3 => ?_, Nx.refl _ _ _, .inl rfl⟩, Off.of hb⟩
    by_cases h : j < y
    · exact gap j h2 h
    · obtain rfl : j = y := by omega
      exact h0 rfl
section
variable {f : Bool → Bool → Bool} {P Q : Nat → Bool}
theorem nz_both (h0 : f false false = false) {k : Nat} (hp : nz P k = false) (hq : nz Q k = false) : nz (fun x => f (P x) (Q x)) k = false :=
  nz_not.2 fun x hx => by show f _ _ = false; rw [nz_not.1 hp x hx, nz_not.1 hq x hx, h0]
theorem blk_fst (h0 : f false false = false) {k : Nat} (hq : nz Q k = false) : ∀ x, x < 65536 → blk (fun x => f (P x) (Q x)) k x = (f true false && blk P k x) := fun x hx => by
  show f (P _) (Q _) = (_ && P _)
  rw [nz_not.1 hq x hx]
  cases P (65536 * k + x) <;> simp [h0]
theorem blk_snd (h0 : f false false = false) {k : Nat} (hp : nz P k = false) : ∀ x, x < 65536 → blk (fun x => f (P x) (Q x)) k x = (f false true && blk Q k x) := fun x hx => by
  show f (P _) (Q _) = (_ && Q _)
  rw [nz_not.1 hp x hx]
  cases Q (65536 * k + x) <;> simp [h0]
theorem nz_congr {R S : Nat → Bool} {k : Nat} (h : ∀ x, x < 65536 → blk R k x = blk S k x) : nz R k = nz S k := by unfold nz; rw [ct_ext h]
end
/-- What is known while two directories are gone through. -/
structure Way2 (N : Nat → Prop) (P Q R : Nat → Bool) (W1 : World) (v : Value) (b K : Nat) (ra rb : List En) (s8 s9 : Value) (wr : World) (N' : Nat → Prop) (sl : Value) (es : List En) : Prop where
  ga : GsV eN W1 0 W1.heap.size s8 ra
  gb : GsV eN W1 0 W1.heap.size s9 rb
  da : Dir N W1 P K 65536 ra
  db : Dir N W1 Q K 65536 rb
  st : Sx N' wr v R b K sl es
  nx : Nx N W1 N' wr
  ow : ∀ g, sl.ownBlock = some g → W1.heap.size ≤ g
  bl : W1.heap.size ≤ b
  be : Below W1.heap.size W1 wr
theorem Way2.next {N N' : Nat → Prop} {P Q R : Nat → Bool} {W1 w' : World} {v s8 s9 t8 t9 sl : Value} {b K K' : Nat} {ra rb ta tb es : List En} {wr : World} (h : Way2 N P Q R W1 v b K ra rb s8 s9 wr N' sl es)
    (hp : Put N' v R b K' sl wr w') (ga : GsV eN W1 0 W1.heap.size t8 ta) (gb : GsV eN W1 0 W1.heap.size t9 tb) (da : Dir N W1 P K' 65536 ta) (db : Dir N W1 Q K' 65536 tb) :
    ∃ N'' sl' es', Way2 N P Q R W1 v b K' ta tb t8 t9 w' N'' sl' es' := by
  obtain ⟨⟨N'', s', es', S, X, O⟩, F⟩ := hp
  have hs := h.be.size
  refine ⟨N'', s', es', ga, gb, da, db, S, h.nx.trans X hs F.size, fun g hg => ?_, h.bl, h.be.trans (F.below (fun k hk hm => ?_) hs)⟩
  · rcases O with e | ⟨g', e, hle⟩
    · exact h.ow g (e ▸ hg)
    · rw [e] at hg; injection hg with hg; omega
  · rcases hm with e | e
    · exact e ▸ h.bl
    · exact h.ow k e
theorem Way2.drew {N N' : Nat → Prop} {P Q R : Nat → Bool} {W1 : World} {v s8 s9 sl : Value} {b K : Nat} {ra rb es : List En} {wr : World} (h : Way2 N P Q R W1 v b K ra rb s8 s9 wr N' sl es) (n : Nat) : Way2 N P Q R W1 v b K ra rb s8 s9 (wr.drewN n) N' sl es :=
  ⟨h.ga, h.gb, h.da, h.db, h.st.step (below_drewN (Below.refl _ _) n), ⟨h.nx.old, h.nx.new, h.nx.sub⟩, h.ow, h.bl, below_drewN h.be n⟩
theorem Way2.stepw {N N' : Nat → Prop} {P Q R : Nat → Bool} {W1 : World} {v s8 s9 sl : Value} {b K : Nat} {ra rb es : List En} {wr w' : World} (h : Way2 N P Q R W1 v b K ra rb s8 s9 wr N' sl es) (hb : Below wr.heap.size wr w') : Way2 N P Q R W1 v b K ra rb s8 s9 w' N' sl es :=
  ⟨h.ga, h.gb, h.da, h.db, h.st.step hb, ⟨h.nx.old, fun x hx hn => h.nx.new x (Nat.le_trans hb.size hx) hn, h.nx.sub⟩, h.ow, h.bl, h.be.trans (hb.mono h.be.size)⟩

theorem Dir.cut {N : Nat → Prop} {w : World} {P : Nat → Bool} {lo lo' hi : Nat} {es : List En} (h : Dir N w P lo hi es) (hl : lo ≤ lo') (h0 : ∀ k, lo ≤ k → k < lo' → nz P k = false) : Dir N w P lo' hi es :=
  ⟨h.ris, fun e he => by
    obtain ⟨a, b, c, d⟩ := h.mem e he
    refine ⟨?_, b, c, d⟩
    by_cases hk : e.key.toNat < lo'
    · rw [h0 _ a hk] at c; cases c
    · omega, fun k h1 h2 h3 => h.all k (Nat.le_trans hl h1) h2 h3⟩
theorem Way2.cn {N N' : Nat → Prop} {P Q R : Nat → Bool} {W1 : World} {v s8 s9 sl : Value} {b K : Nat} {ra rb es : List En} {wr : World} (h : Way2 N P Q R W1 v b K ra rb s8 s9 wr N' sl es) {u : Value} {p : Nat → Bool} {k : Nat} (hc : Cn N W1 u p k) : Cn N' wr u p k :=
  (hc.mono h.nx.old).step h.be
section
variable {N N' : Nat → Prop} {f : Bool → Bool → Bool} {P Q : Nat → Bool} {W1 : World} {v s8 s9 sl : Value} {b K : Nat} {e d : En} {ra rb es : List En} {wr : World} {t : Bool}
theorem Way2.fst (h : Way2 N P Q (fun x => f (P x) (Q x)) W1 v b K (e :: ra) rb s8 s9 wr N' sl es) (h0 : f false false = false) (h1 : f true false = t) (hq : ∀ j, K ≤ j → j < e.key.toNat + 1 → nz Q j = false) :
    (∀ j, K ≤ j → j < e.key.toNat → nz (fun x => f (P x) (Q x)) j = false) ∧ (t = true → nz (fun x => f (P x) (Q x)) e.key.toNat = true ∧ Cn N' wr e.b.val (blk (fun x => f (P x) (Q x)) e.key.toNat) (ck (blk (fun x => f (P x) (Q x)) e.key.toNat))) ∧ (t = false → nz (fun x => f (P x) (Q x)) e.key.toNat = false) := by
  obtain ⟨a1, a2, a3, a4⟩ := h.da.head
  have hb := blk_fst (P := P) h0 (hq e.key.toNat a1 (by omega))
  rw [h1] at hb
  refine ⟨fun j j1 j2 => nz_both h0 (h.da.gap j j1 j2) (hq j j1 (by omega)), fun ht => ?_, fun ht => ?_⟩
  · subst ht
    simp only [Bool.true_and] at hb
    exact ⟨(nz_congr hb).trans a3, by rw [ck_ext hb]; exact (h.cn a4).ext fun x hx => (hb x hx).symm⟩
  · subst ht
    exact nz_not.2 fun x hx => by have := hb x hx; simpa [blk] using this
theorem Way2.snd (h : Way2 N P Q (fun x => f (P x) (Q x)) W1 v b K ra (e :: rb) s8 s9 wr N' sl es) (h0 : f false false = false) (h1 : f false true = t) (hq : ∀ j, K ≤ j → j < e.key.toNat + 1 → nz P j = false) :
    (∀ j, K ≤ j → j < e.key.toNat → nz (fun x => f (P x) (Q x)) j = false) ∧ (t = true → nz (fun x => f (P x) (Q x)) e.key.toNat = true ∧ Cn N' wr e.b.val (blk (fun x => f (P x) (Q x)) e.key.toNat) (ck (blk (fun x => f (P x) (Q x)) e.key.toNat))) ∧ (t = false → nz (fun x => f (P x) (Q x)) e.key.toNat = false) := by
  obtain ⟨a1, a2, a3, a4⟩ := h.db.head
  have hb := blk_snd (Q := Q) h0 (hq e.key.toNat a1 (by omega))
  rw [h1] at hb
  refine ⟨fun j j1 j2 => nz_both h0 (hq j j1 (by omega)) (h.db.gap j j1 j2), fun ht => ?_, fun ht => ?_⟩
  · subst ht
    simp only [Bool.true_and] at hb
    exact ⟨(nz_congr hb).trans a3, by rw [ck_ext hb]; exact (h.cn a4).ext fun x hx => (hb x hx).symm⟩
  · subst ht
    exact nz_not.2 fun x hx => by have := hb x hx; simpa [blk] using this
end
theorem gsv_head {w : World} {hi : Nat} {s : Value} {e : En} {l : List En} (h : GsV eN w 0 hi s (e :: l)) :
    ∃ b off m c, s = .slice (some ⟨b, off, none⟩) m c ∧ m = l.length + 1 ∧ m ≤ c ∧ c ≤ maxLen ∧ b < hi ∧ w.cell? ⟨b, off, none⟩ = some (.int .u16 e.key.toNat) ∧ w.cell? ⟨b, off + 1, none⟩ = some (.int .u8 e.b.κ) ∧
      w.cell? ⟨b, off + 2, none⟩ = some (.slice e.b.A e.b.n e.b.c) ∧ w.cell? ⟨b, off + 3, none⟩ = some (.slice e.b.A2 e.b.n2 e.b.c2) ∧ w.cell? ⟨b, off + 4, none⟩ = some (.slice e.b.A3 e.b.n3 e.b.c3) := by
  have hf := h
  obtain ⟨A, c, rfl, h0, h1, h2, -⟩ := hf
  obtain ⟨b, off, e', e1, e2, hb, -, he, c0, c1, c2, c3, c4⟩ := gsv_at h (k := 0) (by simp)
  subst e1
  obtain rfl : e = e' := by simpa using he
  simp only [Nat.zero_mul, Nat.add_zero] at c0 c1 c2 c3 c4
  exact ⟨b, off, l.length + 1, c, rfl, rfl, h1, h2, hb, c0, c1, c2, c3, c4⟩
theorem gsv_nil {w : World} {hi : Nat} {s : Value} (h : GsV eN w 0 hi s []) : ∃ A c, s = .slice A 0 c := by
  obtain ⟨A, c, rfl, _⟩ := h
  exact ⟨A, c, rfl⟩

set_option maxHeartbeats 40000000 in
set_option maxRecDepth 100000 in
theorem pairof_c {N : Nat → Prop} {f : Bool → Bool → Bool} {F : FuncId} (hF : Both f F) (fst snd : Bool) (h1 : f true false = fst) (h2 : f false true = snd) (sv ov : Value) (P Q : Nat → Bool) (w : World) (hT : Tb w) (hN : ∀ x, w.heap.size ≤ x → N x) (hs : St N w sv P) (ho : St N w ov Q) :
    Calls Tryz.prog 40 #[.agg #[.func (.func F) #[] #[], .bool fst, .bool snd], sv, ov] w fun e w' => ∃ b N' sl es, e = .returned (.pointer (some ⟨b, 0, none⟩)) ∧ Sx N' w' (.pointer (some ⟨b, 0, none⟩)) (fun x => f (P x) (Q x)) b 65536 sl es ∧ Nx N w N' w' ∧ w.heap.size ≤ b ∧ (∀ g, sl.ownBlock = some g → w.heap.size ≤ g) ∧ Below w.heap.size w w' := by
  have HE := hF.ent
  unfold Enters at HE
  have HFF := Lib.hid hF
  have HF1 := Lib.hid h1
  have HF2 := Lib.hid h2
  have bz := bx w (.cells #[.func (.func F) #[] #[], .bool fst, .bool snd] 77)
  have rz := Row.new w 77 #[.func (.func F) #[] #[], .bool fst, .bool snd]
  have HS := Lib.hid (hs.step bz)
  have HO := Lib.hid (ho.step bz)
  have TT := Lib.hid (hT.step bz)
  have HN := Lib.hid hN
  clear hF h1 h2 hs ho hT hN
  go_enter Tryz.func40, Tryz.ntmps40
  go_wp2_with fail
  generalize w.alloc (.cells #[.func (.func F) #[] #[], .bool fst, .bool snd] 77) = W1 at *
  have PB := Lib.hid rz
  have B1 := Lib.hid bz
  clear rz bz
  refine (new_c (N := N) (fun x => f (P x) (Q x)) W1 (fun x hx => HN.out x (Nat.le_trans B1.out.size hx))).mono ?_
  rintro e w2 ⟨b, rfl, hbe, S, X, b2⟩
  have HBE0 := Lib.hid hbe
  clear hbe
  have B2 := Lib.hid b2
  go_wp2_with fail
  refine (entries_at sv P W1 w2 HS.out B2.out).mono ?_
  rintro e w3 ⟨A, n, c, es, rfl, hz, ga, da⟩
  have hz := hz.symm
  subst hz
  have GA := Lib.hid ga
  have DA := Lib.hid da
  clear ga da
  go_wp2_with fail
  refine (entries_at ov Q W1 w2 HO.out B2.out).mono ?_
  rintro e w3 ⟨A', n', c', fs, rfl, hz, gb, db⟩
  have hz := hz.symm
  subst hz
  have WW : Hid (Way2 N P Q (fun x => f (P x) (Q x)) W1 (.pointer (some ⟨b, 0, none⟩)) b 0 es fs (.slice A n c) (.slice A' n' c') w2 (fun x => N x ∧ x ≠ b) (.slice none 0 0) []) := Lib.hid
    ⟨GA.out, gb, DA.out, db, S, X, fun g hg => by simp [Value.ownBlock] at hg, by have := HBE0.out; omega, B2.out⟩
  have hn : n = es.length := by obtain ⟨_, _, e, _⟩ := GA.out; injection e
  have hn' : n' = fs.length := by obtain ⟨_, _, e, _⟩ := gb; injection e
  have HNE := Lib.hid hn
  have HNF := Lib.hid hn'
  clear S X b2 gb db GA DA hn hn'
  go_wp2
  go_loopw [8, 9] (fun s8 s9 wr => ∃ (K : Nat) (ra rb : List En) (N' : Nat → Prop) (sl : Value) (es : List En), K ≤ 65536 ∧ lenOf s8 = ra.length ∧ lenOf s9 = rb.length ∧ Hid (Way2 N P Q (fun x => f (P x) (Q x)) W1 (.pointer (some ⟨b, 0, none⟩)) b K ra rb s8 s9 wr N' sl es)) (fun s8 s9 _ => lenOf s8 + lenOf s9)
  case atStart => exact ⟨0, es, fs, _, _, _, Nat.zero_le _, HNE.out, HNF.out, WW⟩
  case round =>
    obtain ⟨K, ra, rb, N', sl, es', hK, hl8, hl9, hw⟩ := hrel
    have WY := hw
    clear hw
    cases ra with
    | nil =>
      cases rb with
      | nil =>
        obtain ⟨A8, c8, rfl⟩ := gsv_nil WY.out.ga
        obtain ⟨A9, c9, rfl⟩ := gsv_nil WY.out.gb
        have HR : Hid (Sx N' wr (.pointer (some ⟨b, 0, none⟩)) (fun x => f (P x) (Q x)) b 65536 sl es') := Lib.hid (WY.out.st.skip hK fun k h1 h2 => nz_both HFF.out.zero (WY.out.da.none k h1 h2) (WY.out.db.none k h1 h2))
        have HX : Hid (Nx N w N' wr) := Lib.hid ⟨fun x hx hn => WY.out.nx.old x (Nat.lt_of_lt_of_le hx B1.out.size) hn, WY.out.nx.new, WY.out.nx.sub⟩
        have HO : Hid (∀ g, sl.ownBlock = some g → w.heap.size ≤ g) := Lib.hid (fun g hg => Nat.le_trans B1.out.size (WY.out.ow g hg))
        have HBL : Hid (w.heap.size ≤ b) := Lib.hid (Nat.le_trans B1.out.size WY.out.bl)
        have HBE : Hid (Below w.heap.size w wr) := Lib.hid (B1.out.trans (WY.out.be.mono B1.out.size))
        clear WY
        go_wp2
        go_ret
        exact ⟨b, N', sl, es', rfl, HR.out, HX.out, HBL.out, HO.out, HBE.out⟩
      | cons d rb =>
        obtain ⟨A8, c8, rfl⟩ := gsv_nil WY.out.ga
        obtain ⟨bb, ob, n9, c9, rfl, hlb, hcb, hmb, hbb, d0, d1, d2, d3, d4⟩ := gsv_head WY.out.gb
        obtain ⟨z, hyb⟩ : ∃ z, z = d.key.toNat := ⟨_, rfl⟩
        rw [← hyb] at d0
        have CB : Hid (∀ W, Below W1.heap.size W1 W → W.cell? ⟨bb, ob, none⟩ = some (.int .u16 z) ∧ W.cell? ⟨bb, ob + 1, none⟩ = some (.int .u8 d.b.κ) ∧ W.cell? ⟨bb, ob + 2, none⟩ = some (.slice d.b.A d.b.n d.b.c) ∧ W.cell? ⟨bb, ob + 3, none⟩ = some (.slice d.b.A2 d.b.n2 d.b.c2) ∧ W.cell? ⟨bb, ob + 4, none⟩ = some (.slice d.b.A3 d.b.n3 d.b.c3)) := Lib.hid (fun W hW => ⟨(hW.cell (p := ⟨bb, ob, none⟩) hbb).trans d0, (hW.cell (p := ⟨bb, ob + 1, none⟩) hbb).trans d1, (hW.cell (p := ⟨bb, ob + 2, none⟩) hbb).trans d2, (hW.cell (p := ⟨bb, ob + 3, none⟩) hbb).trans d3, (hW.cell (p := ⟨bb, ob + 4, none⟩) hbb).trans d4⟩)
        have kb0 : (n9 : Int) > 0 := by omega
        have kb1 : ((n9 : Int) == 0) = false := beq_false_of_ne (by omega)
        have kb2 : decide ((n9 : Int) = 0) = false := decide_eq_false (by omega)
        have kb3 : (n9 : Int) ≤ c9 := by omega
        have kb4 : (1 : Int) ≤ n9 := by omega
        have kb5 : 0 < n9 := by omega
        have kb6 : decide (0 < n9) = true := decide_eq_true (by omega)
        have Lb := Lib.hid hlb
        have HYb := Lib.hid hyb
        have Q0b := (CB.out wr WY.out.be).1
        clear hlb hyb hmb hbb hcb d0 d1 d2 d3 d4
        go_wp2_with fail
        go_quiet (fail)
        have WY := Lib.hid (WY.out.drew nq)
        generalize wr.drewN nq = wr at *
        go_wp2_with fail
        go_quiet (fail)
        have WY := Lib.hid (WY.out.drew nq)
        generalize wr.drewN nq = wr at *
        have WZ := Lib.hid (WY.out.drew 1)
        have hSc : Below W1.heap.size W1 wr.drew := WZ.out.be
        have PF := Lib.hid (WZ.out.snd HFF.out.zero HF2.out (fun j h1 h2 => WZ.out.da.none j h1 (by have := WZ.out.db.head.2.1; omega)))
        go_wp2_with fail
        refine wp_region_held_drew (S := fun W => Below W1.heap.size W1 W) (by kernel_rfl) hSc (fun _ => ?_)
        refine held_take 0 ?_ rfl (by kernel_rfl) (by kernel_rfl) (by kernel_rfl) (fun _ _ _ h => h) (by rfl) ?_ hSc ?_
        rotate_left
        · (intro W hSW; go_simp; try rfl)
        try simp only [Act.put, List.setIfInBounds_toArray, List.set_cons_zero, List.set_cons_succ]
        refine held_take 1 ?_ rfl (by kernel_rfl) (by kernel_rfl) (by kernel_rfl) (fun _ _ _ h => h) (by rfl) ?_ hSc ?_
        rotate_left
        · (intro W hSW; go_simp; try rfl)
        try simp only [Act.put, List.setIfInBounds_toArray, List.set_cons_zero, List.set_cons_succ]
        refine held_take 2 ?_ rfl (by kernel_rfl) (by kernel_rfl) (by kernel_rfl) (fun _ _ _ h => h) (by rfl) ?_ hSc ?_
        rotate_left
        · (intro W hSW; have r0 := PB.out.below hSW PB.out.lt; have k0 := r0.cell 0; have k1 := r0.cell 1; have k2 := r0.cell 2; go_simp; try rfl)
        try simp only [Act.put, List.setIfInBounds_toArray, List.set_cons_zero, List.set_cons_succ]
        refine held_take 3 ?_ rfl (by kernel_rfl) (by kernel_rfl) (by kernel_rfl) (fun _ _ _ h => h) (by rfl) ?_ hSc ?_
        rotate_left
        · (intro W hSW; go_simp; try rfl)
        try simp only [Act.put, List.setIfInBounds_toArray, List.set_cons_zero, List.set_cons_succ]
        refine held_take 4 ?_ rfl (by kernel_rfl) (by kernel_rfl) (by kernel_rfl) (fun _ _ _ h => h) (by rfl) ?_ hSc ?_
        rotate_left
        · (intro W hSW; go_simp; try rfl)
        try simp only [Act.put, List.setIfInBounds_toArray, List.set_cons_zero, List.set_cons_succ]
        refine held_take 5 ?_ rfl (by kernel_rfl) (by kernel_rfl) (by kernel_rfl) (fun _ _ _ h => h) (by rfl) ?_ hSc ?_
        rotate_left
        · (intro W hSW; obtain ⟨k0, k1, k2, k3, k4⟩ := CB.out W hSW; go_simp; try rfl)
        try simp only [Act.put, List.setIfInBounds_toArray, List.set_cons_zero, List.set_cons_succ]
        have PG := PF.out
        rw [← HYb.out] at PG
        have Db := WZ.out.db.head
        rw [← HYb.out] at Db
        refine held_next 6 rfl (by kernel_rfl) (by rfl) ?_
        go_simp
        refine (putIf_c _ sl _ b K z es' d.b snd _ WZ.out.st Db.1 Db.2.1 PG.1 PG.2.1 PG.2.2).mono ?_
        rintro r w' ⟨rfl, hp⟩
        have hdb := WZ.out.db.tail
        have hda := WZ.out.da.cut (lo' := d.key.toNat + 1) (by rw [← HYb.out]; have := Db.1; omega) (fun j h1 h2 => WZ.out.da.none j h1 (by have := WZ.out.db.head.2.1; omega))
        rw [← HYb.out] at hda hdb
        obtain ⟨N2, sl2, es2, W2⟩ := WZ.out.next hp WZ.out.ga WZ.out.gb.tail_ hda hdb
        have WN := Lib.hid W2
        refine ⟨fun W => Below W1.heap.size W1 W, fun W hW => hW, W2.be, ?_⟩
        refine wpAnyH_done (by kernel_rfl) ?_ _
        have hK2 := Db.2.1
        clear PG hda hdb W2 hp Db PF
        go_wp2

        refine ⟨⟨z + 1, _, _, _, _, _, hK2, hl8, ?_, WN⟩, ?_⟩
        · have := Lb.out; simp [lenOf]; omega
        · have := Lb.out; simp [lenOf]; omega
    | cons e ra =>
      cases rb with
      | nil =>
        obtain ⟨A9, c9, rfl⟩ := gsv_nil WY.out.gb
        obtain ⟨ba, oa, n8, c8, rfl, hla, hca, hma, hba, c0, c1, c2, c3, c4⟩ := gsv_head WY.out.ga
        obtain ⟨y, hya⟩ : ∃ y, y = e.key.toNat := ⟨_, rfl⟩
        rw [← hya] at c0
        have CA : Hid (∀ W, Below W1.heap.size W1 W → W.cell? ⟨ba, oa, none⟩ = some (.int .u16 y) ∧ W.cell? ⟨ba, oa + 1, none⟩ = some (.int .u8 e.b.κ) ∧ W.cell? ⟨ba, oa + 2, none⟩ = some (.slice e.b.A e.b.n e.b.c) ∧ W.cell? ⟨ba, oa + 3, none⟩ = some (.slice e.b.A2 e.b.n2 e.b.c2) ∧ W.cell? ⟨ba, oa + 4, none⟩ = some (.slice e.b.A3 e.b.n3 e.b.c3)) := Lib.hid (fun W hW => ⟨(hW.cell (p := ⟨ba, oa, none⟩) hba).trans c0, (hW.cell (p := ⟨ba, oa + 1, none⟩) hba).trans c1, (hW.cell (p := ⟨ba, oa + 2, none⟩) hba).trans c2, (hW.cell (p := ⟨ba, oa + 3, none⟩) hba).trans c3, (hW.cell (p := ⟨ba, oa + 4, none⟩) hba).trans c4⟩)
        have ka0 : (n8 : Int) > 0 := by omega
        have ka1 : ((n8 : Int) == 0) = false := beq_false_of_ne (by omega)
        have ka2 : decide ((n8 : Int) = 0) = false := decide_eq_false (by omega)
        have ka3 : (n8 : Int) ≤ c8 := by omega
        have ka4 : (1 : Int) ≤ n8 := by omega
        have ka5 : 0 < n8 := by omega
        have ka6 : decide (0 < n8) = true := decide_eq_true (by omega)
        have La := Lib.hid hla
        have HYa := Lib.hid hya
        have Q0a := (CA.out wr WY.out.be).1
        clear hla hya hma hba hca c0 c1 c2 c3 c4
        go_wp2_with fail
        go_quiet (fail)
        have WY := Lib.hid (WY.out.drew nq)
        generalize wr.drewN nq = wr at *
        have WZ := Lib.hid (WY.out.drew 1)
        have hSc : Below W1.heap.size W1 wr.drew := WZ.out.be
        have PF := Lib.hid (WZ.out.fst HFF.out.zero HF1.out (fun j h1 h2 => WZ.out.db.none j h1 (by have := WZ.out.da.head.2.1; omega)))
        go_wp2_with fail
        refine wp_region_held_drew (S := fun W => Below W1.heap.size W1 W) (by kernel_rfl) hSc (fun _ => ?_)
        refine held_take 0 ?_ rfl (by kernel_rfl) (by kernel_rfl) (by kernel_rfl) (fun _ _ _ h => h) (by rfl) ?_ hSc ?_
        rotate_left
        · (intro W hSW; go_simp; try rfl)
        try simp only [Act.put, List.setIfInBounds_toArray, List.set_cons_zero, List.set_cons_succ]
        refine held_take 1 ?_ rfl (by kernel_rfl) (by kernel_rfl) (by kernel_rfl) (fun _ _ _ h => h) (by rfl) ?_ hSc ?_
        rotate_left
        · (intro W hSW; go_simp; try rfl)
        try simp only [Act.put, List.setIfInBounds_toArray, List.set_cons_zero, List.set_cons_succ]
        refine held_take 2 ?_ rfl (by kernel_rfl) (by kernel_rfl) (by kernel_rfl) (fun _ _ _ h => h) (by rfl) ?_ hSc ?_
        rotate_left
        · (intro W hSW; have r0 := PB.out.below hSW PB.out.lt; have k0 := r0.cell 0; have k1 := r0.cell 1; have k2 := r0.cell 2; go_simp; try rfl)
        try simp only [Act.put, List.setIfInBounds_toArray, List.set_cons_zero, List.set_cons_succ]
        refine held_take 3 ?_ rfl (by kernel_rfl) (by kernel_rfl) (by kernel_rfl) (fun _ _ _ h => h) (by rfl) ?_ hSc ?_
        rotate_left
        · (intro W hSW; go_simp; try rfl)
        try simp only [Act.put, List.setIfInBounds_toArray, List.set_cons_zero, List.set_cons_succ]
        refine held_take 4 ?_ rfl (by kernel_rfl) (by kernel_rfl) (by kernel_rfl) (fun _ _ _ h => h) (by rfl) ?_ hSc ?_
        rotate_left
        · (intro W hSW; go_simp; try rfl)
        try simp only [Act.put, List.setIfInBounds_toArray, List.set_cons_zero, List.set_cons_succ]
        refine held_take 5 ?_ rfl (by kernel_rfl) (by kernel_rfl) (by kernel_rfl) (fun _ _ _ h => h) (by rfl) ?_ hSc ?_
        rotate_left
        · (intro W hSW; obtain ⟨k0, k1, k2, k3, k4⟩ := CA.out W hSW; go_simp; try rfl)
        try simp only [Act.put, List.setIfInBounds_toArray, List.set_cons_zero, List.set_cons_succ]
        have PG := PF.out
        rw [← HYa.out] at PG
        have Da := WZ.out.da.head
        rw [← HYa.out] at Da
        refine held_next 6 rfl (by kernel_rfl) (by rfl) ?_
        go_simp
        refine (putIf_c _ sl _ b K y es' e.b fst _ WZ.out.st Da.1 Da.2.1 PG.1 PG.2.1 PG.2.2).mono ?_
        rintro r w' ⟨rfl, hp⟩
        have hda := WZ.out.da.tail
        have hdb := WZ.out.db.cut (lo' := e.key.toNat + 1) (by rw [← HYa.out]; have := Da.1; omega) (fun j h1 h2 => WZ.out.db.none j h1 (by have := WZ.out.da.head.2.1; omega))
        rw [← HYa.out] at hda hdb
        obtain ⟨N2, sl2, es2, W2⟩ := WZ.out.next hp WZ.out.ga.tail_ WZ.out.gb hda hdb
        have WN := Lib.hid W2
        refine ⟨fun W => Below W1.heap.size W1 W, fun W hW => hW, W2.be, ?_⟩
        refine wpAnyH_done (by kernel_rfl) ?_ _
        have hK2 := Da.2.1
        clear PG hda hdb W2 hp Da PF
        go_wp2

        refine ⟨⟨y + 1, _, _, _, _, _, hK2, ?_, hl9, WN⟩, ?_⟩
        · have := La.out; simp [lenOf]; omega
        · have := La.out; simp [lenOf]; omega
      | cons d rb =>
        obtain ⟨ba, oa, n8, c8, rfl, hla, hca, hma, hba, c0, c1, c2, c3, c4⟩ := gsv_head WY.out.ga
        obtain ⟨y, hya⟩ : ∃ y, y = e.key.toNat := ⟨_, rfl⟩
        rw [← hya] at c0
        have CA : Hid (∀ W, Below W1.heap.size W1 W → W.cell? ⟨ba, oa, none⟩ = some (.int .u16 y) ∧ W.cell? ⟨ba, oa + 1, none⟩ = some (.int .u8 e.b.κ) ∧ W.cell? ⟨ba, oa + 2, none⟩ = some (.slice e.b.A e.b.n e.b.c) ∧ W.cell? ⟨ba, oa + 3, none⟩ = some (.slice e.b.A2 e.b.n2 e.b.c2) ∧ W.cell? ⟨ba, oa + 4, none⟩ = some (.slice e.b.A3 e.b.n3 e.b.c3)) := Lib.hid (fun W hW => ⟨(hW.cell (p := ⟨ba, oa, none⟩) hba).trans c0, (hW.cell (p := ⟨ba, oa + 1, none⟩) hba).trans c1, (hW.cell (p := ⟨ba, oa + 2, none⟩) hba).trans c2, (hW.cell (p := ⟨ba, oa + 3, none⟩) hba).trans c3, (hW.cell (p := ⟨ba, oa + 4, none⟩) hba).trans c4⟩)
        have ka0 : (n8 : Int) > 0 := by omega
        have ka1 : ((n8 : Int) == 0) = false := beq_false_of_ne (by omega)
        have ka2 : decide ((n8 : Int) = 0) = false := decide_eq_false (by omega)
        have ka3 : (n8 : Int) ≤ c8 := by omega
        have ka4 : (1 : Int) ≤ n8 := by omega
        have ka5 : 0 < n8 := by omega
        have ka6 : decide (0 < n8) = true := decide_eq_true (by omega)
        have La := Lib.hid hla
        have HYa := Lib.hid hya
        have Q0a := (CA.out wr WY.out.be).1
        clear hla hya hma hba hca c0 c1 c2 c3 c4
        obtain ⟨bb, ob, n9, c9, rfl, hlb, hcb, hmb, hbb, d0, d1, d2, d3, d4⟩ := gsv_head WY.out.gb
        obtain ⟨z, hyb⟩ : ∃ z, z = d.key.toNat := ⟨_, rfl⟩
        rw [← hyb] at d0
        have CB : Hid (∀ W, Below W1.heap.size W1 W → W.cell? ⟨bb, ob, none⟩ = some (.int .u16 z) ∧ W.cell? ⟨bb, ob + 1, none⟩ = some (.int .u8 d.b.κ) ∧ W.cell? ⟨bb, ob + 2, none⟩ = some (.slice d.b.A d.b.n d.b.c) ∧ W.cell? ⟨bb, ob + 3, none⟩ = some (.slice d.b.A2 d.b.n2 d.b.c2) ∧ W.cell? ⟨bb, ob + 4, none⟩ = some (.slice d.b.A3 d.b.n3 d.b.c3)) := Lib.hid (fun W hW => ⟨(hW.cell (p := ⟨bb, ob, none⟩) hbb).trans d0, (hW.cell (p := ⟨bb, ob + 1, none⟩) hbb).trans d1, (hW.cell (p := ⟨bb, ob + 2, none⟩) hbb).trans d2, (hW.cell (p := ⟨bb, ob + 3, none⟩) hbb).trans d3, (hW.cell (p := ⟨bb, ob + 4, none⟩) hbb).trans d4⟩)
        have kb0 : (n9 : Int) > 0 := by omega
        have kb1 : ((n9 : Int) == 0) = false := beq_false_of_ne (by omega)
        have kb2 : decide ((n9 : Int) = 0) = false := decide_eq_false (by omega)
        have kb3 : (n9 : Int) ≤ c9 := by omega
        have kb4 : (1 : Int) ≤ n9 := by omega
        have kb5 : 0 < n9 := by omega
        have kb6 : decide (0 < n9) = true := decide_eq_true (by omega)
        have Lb := Lib.hid hlb
        have HYb := Lib.hid hyb
        have Q0b := (CB.out wr WY.out.be).1
        clear hlb hyb hmb hbb hcb d0 d1 d2 d3 d4
        rcases Nat.lt_trichotomy y z with hyz | hyz | hyz
        · have c1 : (y : Int) < z := by omega
          have HYZ := Lib.hid hyz
          clear hyz
          go_wp2_with fail
          go_quiet (fail)
          have WY := Lib.hid (WY.out.drew nq)
          generalize wr.drewN nq = wr at *
          clear Q0a
          have Q0a := (CA.out wr WY.out.be).1
          clear Q0b
          have Q0b := (CB.out wr WY.out.be).1
          have WZ := Lib.hid (WY.out.drew 1)
          have hSc : Below W1.heap.size W1 wr.drew := WZ.out.be
          have PF := Lib.hid (WZ.out.fst HFF.out.zero HF1.out (fun j h1 h2 => WZ.out.db.gap j h1 (by have := HYZ.out; rw [HYa.out, HYb.out] at this; omega)))
          go_wp2_with fail
          refine wp_region_held_drew (S := fun W => Below W1.heap.size W1 W) (by kernel_rfl) hSc (fun _ => ?_)
          refine held_take 0 ?_ rfl (by kernel_rfl) (by kernel_rfl) (by kernel_rfl) (fun _ _ _ h => h) (by rfl) ?_ hSc ?_
          rotate_left
          · (intro W hSW; go_simp; try rfl)
          try simp only [Act.put, List.setIfInBounds_toArray, List.set_cons_zero, List.set_cons_succ]
          refine held_take 1 ?_ rfl (by kernel_rfl) (by kernel_rfl) (by kernel_rfl) (fun _ _ _ h => h) (by rfl) ?_ hSc ?_
          rotate_left
          · (intro W hSW; go_simp; try rfl)
          try simp only [Act.put, List.setIfInBounds_toArray, List.set_cons_zero, List.set_cons_succ]
          refine held_take 2 ?_ rfl (by kernel_rfl) (by kernel_rfl) (by kernel_rfl) (fun _ _ _ h => h) (by rfl) ?_ hSc ?_
          rotate_left
          · (intro W hSW; have r0 := PB.out.below hSW PB.out.lt; have k0 := r0.cell 0; have k1 := r0.cell 1; have k2 := r0.cell 2; go_simp; try rfl)
          try simp only [Act.put, List.setIfInBounds_toArray, List.set_cons_zero, List.set_cons_succ]
          refine held_take 3 ?_ rfl (by kernel_rfl) (by kernel_rfl) (by kernel_rfl) (fun _ _ _ h => h) (by rfl) ?_ hSc ?_
          rotate_left
          · (intro W hSW; go_simp; try rfl)
          try simp only [Act.put, List.setIfInBounds_toArray, List.set_cons_zero, List.set_cons_succ]
          refine held_take 4 ?_ rfl (by kernel_rfl) (by kernel_rfl) (by kernel_rfl) (fun _ _ _ h => h) (by rfl) ?_ hSc ?_
          rotate_left
          · (intro W hSW; go_simp; try rfl)
          try simp only [Act.put, List.setIfInBounds_toArray, List.set_cons_zero, List.set_cons_succ]
          refine held_take 5 ?_ rfl (by kernel_rfl) (by kernel_rfl) (by kernel_rfl) (fun _ _ _ h => h) (by rfl) ?_ hSc ?_
          rotate_left
          · (intro W hSW; obtain ⟨k0, k1, k2, k3, k4⟩ := CA.out W hSW; go_simp; try rfl)
          try simp only [Act.put, List.setIfInBounds_toArray, List.set_cons_zero, List.set_cons_succ]
          have PG := PF.out
          rw [← HYa.out] at PG
          have Da := WZ.out.da.head
          rw [← HYa.out] at Da
          refine held_next 6 rfl (by kernel_rfl) (by rfl) ?_
          go_simp
          refine (putIf_c _ sl _ b K y es' e.b fst _ WZ.out.st Da.1 Da.2.1 PG.1 PG.2.1 PG.2.2).mono ?_
          rintro r w' ⟨rfl, hp⟩
          have hda := WZ.out.da.tail
          have hdb := WZ.out.db.cut (lo' := e.key.toNat + 1) (by rw [← HYa.out]; have := Da.1; omega) (fun j h1 h2 => WZ.out.db.gap j h1 (by have := HYZ.out; rw [HYa.out, HYb.out] at this; omega))
          rw [← HYa.out] at hda hdb
          obtain ⟨N2, sl2, es2, W2⟩ := WZ.out.next hp WZ.out.ga.tail_ WZ.out.gb hda hdb
          have WN := Lib.hid W2
          refine ⟨fun W => Below W1.heap.size W1 W, fun W hW => hW, W2.be, ?_⟩
          refine wpAnyH_done (by kernel_rfl) ?_ _
          have hK2 := Da.2.1
          clear PG hda hdb W2 hp Da PF
          go_wp2

          refine ⟨⟨y + 1, _, _, _, _, _, hK2, ?_, hl9, WN⟩, ?_⟩
          · have := La.out; simp [lenOf]; omega
          · have := La.out; simp [lenOf]; omega
        · subst hyz
          have c1 : decide ((y : Int) < y) = false := decide_eq_false (by omega)
          go_wp2_with fail
          go_quiet (fail)
          have WY := Lib.hid (WY.out.drew nq)
          generalize wr.drewN nq = wr at *
          clear Q0a
          have Q0a := (CA.out wr WY.out.be).1
          clear Q0b
          have Q0b := (CB.out wr WY.out.be).1
          go_wp2_with fail
          go_quiet (fail)
          have WY := Lib.hid (WY.out.drew nq)
          generalize wr.drewN nq = wr at *
          clear Q0a
          have Q0a := (CA.out wr WY.out.be).1
          clear Q0b
          have Q0b := (CB.out wr WY.out.be).1
          have WZ := Lib.hid (WY.out.drew 1)
          have hSc : Below W1.heap.size W1 wr.drew := WZ.out.be
          go_wp2_with fail
          refine wp_region_held_drew (S := fun W => Below W1.heap.size W1 W) (by kernel_rfl) hSc (fun _ => ?_)
          refine held_take 0 ?_ rfl (by kernel_rfl) (by kernel_rfl) (by kernel_rfl) (fun _ _ _ h => h) (by rfl) ?_ hSc ?_
          rotate_left
          · (intro W hSW; go_simp; try rfl)
          try simp only [Act.put, List.setIfInBounds_toArray, List.set_cons_zero, List.set_cons_succ]
          refine held_take 1 ?_ rfl (by kernel_rfl) (by kernel_rfl) (by kernel_rfl) (fun _ _ _ h => h) (by rfl) ?_ hSc ?_
          rotate_left
          · (intro W hSW; go_simp; try rfl)
          try simp only [Act.put, List.setIfInBounds_toArray, List.set_cons_zero, List.set_cons_succ]
          refine held_take 2 ?_ rfl (by kernel_rfl) (by kernel_rfl) (by kernel_rfl) (fun _ _ _ h => h) (by rfl) ?_ hSc ?_
          rotate_left
          · (intro W hSW; go_simp; try rfl)
          try simp only [Act.put, List.setIfInBounds_toArray, List.set_cons_zero, List.set_cons_succ]
          refine held_take 3 ?_ rfl (by kernel_rfl) (by kernel_rfl) (by kernel_rfl) (fun _ _ _ h => h) (by rfl) ?_ hSc ?_
          rotate_left
          · (intro W hSW; go_simp; try rfl)
          try simp only [Act.put, List.setIfInBounds_toArray, List.set_cons_zero, List.set_cons_succ]
          refine held_take 4 ?_ rfl (by kernel_rfl) (by kernel_rfl) (by kernel_rfl) (fun _ _ _ h => h) (by rfl) ?_ hSc ?_
          rotate_left
          · (intro W hSW; obtain ⟨k0, k1, k2, k3, k4⟩ := CA.out W hSW; go_simp; try rfl)
          try simp only [Act.put, List.setIfInBounds_toArray, List.set_cons_zero, List.set_cons_succ]
          refine held_take 5 ?_ rfl (by kernel_rfl) (by kernel_rfl) (by kernel_rfl) (fun _ _ _ h => h) (by rfl) ?_ hSc ?_
          rotate_left
          · (intro W hSW; go_simp; try rfl)
          try simp only [Act.put, List.setIfInBounds_toArray, List.set_cons_zero, List.set_cons_succ]
          refine held_take 6 ?_ rfl (by kernel_rfl) (by kernel_rfl) (by kernel_rfl) (fun _ _ _ h => h) (by rfl) ?_ hSc ?_
          rotate_left
          · (intro W hSW; have r0 := PB.out.below hSW PB.out.lt; have k0 := r0.cell 0; have k1 := r0.cell 1; have k2 := r0.cell 2; go_simp; try rfl)
          try simp only [Act.put, List.setIfInBounds_toArray, List.set_cons_zero, List.set_cons_succ]
          refine held_take 7 ?_ rfl (by kernel_rfl) (by kernel_rfl) (by kernel_rfl) (fun _ _ _ h => h) (by rfl) ?_ hSc ?_
          rotate_left
          · (intro W hSW; go_simp; try rfl)
          try simp only [Act.put, List.setIfInBounds_toArray, List.set_cons_zero, List.set_cons_succ]
          refine held_take 8 ?_ rfl (by kernel_rfl) (by kernel_rfl) (by kernel_rfl) (fun _ _ _ h => h) (by rfl) ?_ hSc ?_
          rotate_left
          · (intro W hSW; go_simp; try rfl)
          try simp only [Act.put, List.setIfInBounds_toArray, List.set_cons_zero, List.set_cons_succ]
          refine held_take 9 ?_ rfl (by kernel_rfl) (by kernel_rfl) (by kernel_rfl) (fun _ _ _ h => h) (by rfl) ?_ hSc ?_
          rotate_left
          · (intro W hSW; go_simp; try rfl)
          try simp only [Act.put, List.setIfInBounds_toArray, List.set_cons_zero, List.set_cons_succ]
          refine held_take 10 ?_ rfl (by kernel_rfl) (by kernel_rfl) (by kernel_rfl) (fun _ _ _ h => h) (by rfl) ?_ hSc ?_
          rotate_left
          · (intro W hSW; obtain ⟨k0, k1, k2, k3, k4⟩ := CA.out W hSW; go_simp; try rfl)
          try simp only [Act.put, List.setIfInBounds_toArray, List.set_cons_zero, List.set_cons_succ]
          refine held_take 11 ?_ rfl (by kernel_rfl) (by kernel_rfl) (by kernel_rfl) (fun _ _ _ h => h) (by rfl) ?_ hSc ?_
          rotate_left
          · (intro W hSW; go_simp; try rfl)
          try simp only [Act.put, List.setIfInBounds_toArray, List.set_cons_zero, List.set_cons_succ]
          refine held_take 12 ?_ rfl (by kernel_rfl) (by kernel_rfl) (by kernel_rfl) (fun _ _ _ h => h) (by rfl) ?_ hSc ?_
          rotate_left
          · (intro W hSW; go_simp; try rfl)
          try simp only [Act.put, List.setIfInBounds_toArray, List.set_cons_zero, List.set_cons_succ]
          refine held_take 13 ?_ rfl (by kernel_rfl) (by kernel_rfl) (by kernel_rfl) (fun _ _ _ h => h) (by rfl) ?_ hSc ?_
          rotate_left
          · (intro W hSW; go_simp; try rfl)
          try simp only [Act.put, List.setIfInBounds_toArray, List.set_cons_zero, List.set_cons_succ]
          refine held_take 14 ?_ rfl (by kernel_rfl) (by kernel_rfl) (by kernel_rfl) (fun _ _ _ h => h) (by rfl) ?_ hSc ?_
          rotate_left
          · (intro W hSW; obtain ⟨k0, k1, k2, k3, k4⟩ := CB.out W hSW; go_simp; try rfl)
          try simp only [Act.put, List.setIfInBounds_toArray, List.set_cons_zero, List.set_cons_succ]
          have Da := WZ.out.da.head
          have Db := WZ.out.db.head
          have KE : Hid (e.key.toNat = d.key.toNat) := Lib.hid (HYa.out.symm.trans HYb.out)
          rw [← KE.out] at Db
          rw [← HYa.out] at Da Db
          have TW := Lib.hid ((TT.out.step WZ.out.be))
          have HNN : Hid (∀ x, wr.drew.heap.size ≤ x → N' x) := Lib.hid (fun x hx => WZ.out.nx.new x hx (HN.out x (Nat.le_trans B1.out.size (Nat.le_trans WZ.out.be.size hx))))
          refine held_next 15 rfl (by kernel_rfl) (by rfl) ?_
          go_simp
          refine (HFF.out.run N' e.b.val d.b.val (blk P y) (blk Q y) _ _ _ TW.out HNN.out (WZ.out.cn Da.2.2.2) (WZ.out.cn Db.2.2.2)).mono ?_
          rintro r wq ⟨v', rfl, g, bq⟩
          obtain ⟨κv, Av, nv, cv, Bv, mv, dv, Dv, qv, ev, rfl⟩ := g.form
          have WQ := Lib.hid (WZ.out.stepw bq)
          have GQ := Lib.hid g
          clear g bq hSc
          have hSc : Below W1.heap.size W1 wq := WQ.out.be
          refine ⟨fun W => Below W1.heap.size W1 W, fun W hW => hW, hSc, ?_⟩
          try simp only [Act.put, List.setIfInBounds_toArray, List.set_cons_zero, List.set_cons_succ]
          have GP : Hid (∀ j, K ≤ j → j < y → nz (fun x => f (P x) (Q x)) j = false) := Lib.hid (fun j h1 h2 => nz_both HFF.out.zero (WQ.out.da.gap j h1 (by rw [← HYa.out]; exact h2)) (WQ.out.db.gap j h1 (by rw [← HYb.out]; exact h2)))
          refine held_next 16 rfl (by kernel_rfl) (by rfl) ?_
          go_simp
          refine (put_c _ sl _ b K y es' ⟨κv, Av, nv, cv, Bv, mv, dv, Dv, qv, ev⟩ _ WQ.out.st Da.1 Da.2.1 GP.out GQ.out).mono ?_
          rintro r w' ⟨rfl, hp⟩
          have hda := WQ.out.da.tail
          have hdb := WQ.out.db.tail
          rw [← KE.out] at hdb
          rw [← HYa.out] at hda hdb
          obtain ⟨N2, sl2, es2, W2⟩ := WQ.out.next hp WQ.out.ga.tail_ WQ.out.gb.tail_ hda hdb
          have WN := Lib.hid W2
          refine ⟨fun W => Below W1.heap.size W1 W, fun W hW => hW, W2.be, ?_⟩
          refine wpAnyH_done (by kernel_rfl) ?_ _
          have hK2 := Da.2.1
          clear hda hdb W2 hp Da Db
          go_wp2_with fail
          go_quiet (fail)
          have WN := Lib.hid (WN.out.drew nq)
          generalize w'.drewN nq = w' at *
          go_wp2
          refine ⟨⟨y + 1, _, _, _, _, _, hK2, ?_, ?_, WN⟩, ?_⟩
          · have := La.out; simp [lenOf]; omega
          · have := Lb.out; simp [lenOf]; omega
          · have := La.out; have := Lb.out; simp [lenOf]; omega
        · have c1 : (z : Int) < y := by omega
          have c2 : decide ((y : Int) < z) = false := decide_eq_false (by omega)
          have HYZ := Lib.hid hyz
          clear hyz
          go_wp2_with fail
          go_quiet (fail)
          have WY := Lib.hid (WY.out.drew nq)
          generalize wr.drewN nq = wr at *
          clear Q0a
          have Q0a := (CA.out wr WY.out.be).1
          clear Q0b
          have Q0b := (CB.out wr WY.out.be).1
          go_wp2_with fail
          go_quiet (fail)
          have WY := Lib.hid (WY.out.drew nq)
          generalize wr.drewN nq = wr at *
          clear Q0a
          have Q0a := (CA.out wr WY.out.be).1
          clear Q0b
          have Q0b := (CB.out wr WY.out.be).1
          have WZ := Lib.hid (WY.out.drew 1)
          have hSc : Below W1.heap.size W1 wr.drew := WZ.out.be
          have PF := Lib.hid (WZ.out.snd HFF.out.zero HF2.out (fun j h1 h2 => WZ.out.da.gap j h1 (by have := HYZ.out; rw [HYa.out, HYb.out] at this; omega)))
          go_wp2_with fail
          refine wp_region_held_drew (S := fun W => Below W1.heap.size W1 W) (by kernel_rfl) hSc (fun _ => ?_)
          refine held_take 0 ?_ rfl (by kernel_rfl) (by kernel_rfl) (by kernel_rfl) (fun _ _ _ h => h) (by rfl) ?_ hSc ?_
          rotate_left
          · (intro W hSW; go_simp; try rfl)
          try simp only [Act.put, List.setIfInBounds_toArray, List.set_cons_zero, List.set_cons_succ]
          refine held_take 1 ?_ rfl (by kernel_rfl) (by kernel_rfl) (by kernel_rfl) (fun _ _ _ h => h) (by rfl) ?_ hSc ?_
          rotate_left
          · (intro W hSW; go_simp; try rfl)
          try simp only [Act.put, List.setIfInBounds_toArray, List.set_cons_zero, List.set_cons_succ]
          refine held_take 2 ?_ rfl (by kernel_rfl) (by kernel_rfl) (by kernel_rfl) (fun _ _ _ h => h) (by rfl) ?_ hSc ?_
          rotate_left
          · (intro W hSW; have r0 := PB.out.below hSW PB.out.lt; have k0 := r0.cell 0; have k1 := r0.cell 1; have k2 := r0.cell 2; go_simp; try rfl)
          try simp only [Act.put, List.setIfInBounds_toArray, List.set_cons_zero, List.set_cons_succ]
          refine held_take 3 ?_ rfl (by kernel_rfl) (by kernel_rfl) (by kernel_rfl) (fun _ _ _ h => h) (by rfl) ?_ hSc ?_
          rotate_left
          · (intro W hSW; go_simp; try rfl)
          try simp only [Act.put, List.setIfInBounds_toArray, List.set_cons_zero, List.set_cons_succ]
          refine held_take 4 ?_ rfl (by kernel_rfl) (by kernel_rfl) (by kernel_rfl) (fun _ _ _ h => h) (by rfl) ?_ hSc ?_
          rotate_left
          · (intro W hSW; go_simp; try rfl)
          try simp only [Act.put, List.setIfInBounds_toArray, List.set_cons_zero, List.set_cons_succ]
          refine held_take 5 ?_ rfl (by kernel_rfl) (by kernel_rfl) (by kernel_rfl) (fun _ _ _ h => h) (by rfl) ?_ hSc ?_
          rotate_left
          · (intro W hSW; obtain ⟨k0, k1, k2, k3, k4⟩ := CB.out W hSW; go_simp; try rfl)
          try simp only [Act.put, List.setIfInBounds_toArray, List.set_cons_zero, List.set_cons_succ]
          have PG := PF.out
          rw [← HYb.out] at PG
          have Db := WZ.out.db.head
          rw [← HYb.out] at Db
          refine held_next 6 rfl (by kernel_rfl) (by rfl) ?_
          go_simp
          refine (putIf_c _ sl _ b K z es' d.b snd _ WZ.out.st Db.1 Db.2.1 PG.1 PG.2.1 PG.2.2).mono ?_
          rintro r w' ⟨rfl, hp⟩
          have hdb := WZ.out.db.tail
          have hda := WZ.out.da.cut (lo' := d.key.toNat + 1) (by rw [← HYb.out]; have := Db.1; omega) (fun j h1 h2 => WZ.out.da.gap j h1 (by have := HYZ.out; rw [HYa.out, HYb.out] at this; omega))
          rw [← HYb.out] at hda hdb
          obtain ⟨N2, sl2, es2, W2⟩ := WZ.out.next hp WZ.out.ga WZ.out.gb.tail_ hda hdb
          have WN := Lib.hid W2
          refine ⟨fun W => Below W1.heap.size W1 W, fun W hW => hW, W2.be, ?_⟩
          refine wpAnyH_done (by kernel_rfl) ?_ _
          have hK2 := Db.2.1
          clear PG hda hdb W2 hp Db PF
          go_wp2

          refine ⟨⟨z + 1, _, _, _, _, _, hK2, hl8, ?_, WN⟩, ?_⟩
          · have := Lb.out; simp [lenOf]; omega
          · have := Lb.out; simp [lenOf]; omega
end Go.Proofs.YtcmifbjeabkihabGreatDoor
