/- Walks: byKey at spans. -/
import Derived.Test.YtponcpneflhpfaaGreatDoorSc2
namespace Go.Proofs.YtponcpneflhpfaaGreatDoor
open Go.RowKit
set_option linter.unusedVariables false

theorem ts_take {w : World} {b off n c m lo hi : Nat} {l : List Sn} (hm : l.length = m) (h : Gs2 eSp w lo hi (.slice (some ⟨b, off, none⟩) m c) l) (hn : n ≤ m) : Gs2 eSp w lo hi (.slice (some ⟨b, off, none⟩) n c) (l.take n) := by
  subst hm
  obtain ⟨A, c', e, h0, h1, h2, hb⟩ := h
  injection e with e1 e2 e3
  subst e1 e3
  have hl : (l.take n).length = n := by rw [List.length_take]; omega
  refine ⟨_, _, by rw [hl], fun e => (by cases e), by omega, h2, fun hne => ?_⟩
  obtain ⟨b', off', e, x1, x2, hc⟩ := hb (by rintro rfl; simp at hne)
  exact ⟨b', off', e, x1, x2, fun j x hx => hc j x (by rw [List.getElem?_take] at hx; split at hx; exact hx; cases hx)⟩
theorem ts_drop {w : World} {b off n c m lo hi : Nat} {l : List Sn} (hm : l.length = m) (h : Gs2 eSp w lo hi (.slice (some ⟨b, off, none⟩) m c) l) (hn : n ≤ m) : Gs2 eSp w lo hi (.slice (if c = n then some ⟨b, off, none⟩ else some ⟨b, off + n * 2, none⟩) (m - n) (c - n)) (l.drop n) := by
  subst hm
  obtain ⟨A, c', e, h0, h1, h2, hb⟩ := h
  injection e with e1 e2 e3
  subst e1 e3
  have hl : (l.drop n).length = l.length - n := List.length_drop
  refine ⟨_, _, by rw [hl], fun e => ?_, by omega, by omega, fun hne => ?_⟩
  · split at e <;> cases e
  · obtain ⟨b', off', e, x1, x2, hc⟩ := hb (by rintro rfl; simp at hne)
    injection e with e
    injection e with e4 e5 e6
    subst e4 e5
    have hlt : n < l.length := by
      rcases Nat.lt_or_ge n l.length with h | h
      · exact h
      · exact absurd (List.drop_eq_nil_of_le h) hne
    rw [if_neg (by omega)]
    refine ⟨b, off + n * 2, rfl, x1, x2, fun j x hx => ?_⟩
    have := hc (n + j) x (by rw [List.getElem?_drop] at hx; exact hx)
    rw [show off + 2 * (n + j) = off + n * 2 + 2 * j by omega] at this
    exact this
/-- What is known while pieces are laid key by key. -/
structure BK (N : Nat → Prop) (R : Nat → Bool) (B bp g3 g4 b : Nat) (w : World) (wr : World) (s0 : Value) (rest : List Sn) (K : Nat) (N' : Nat → Prop) (sl : Value) (es : List En) : Prop where
  ga : Gs2 eSp wr bp (bp + 1) s0 rest
  mq : ∃ n, myq n rest
  ky : ∀ s ∈ rest, K ≤ skey s
  sp_ : ∀ x, K ≤ x / 65536 → R x = sp rest x
  st : Sx N' wr (.pointer (some ⟨b, 0, none⟩)) R b K sl es
  nx : Nx N w N' wr
  ow : ∀ g, sl.ownBlock = some g → B ≤ g ∧ g ≠ bp ∧ g ≠ g3 ∧ g ≠ g4
  ne : B ≤ b ∧ b ≠ bp ∧ b ≠ g3 ∧ b ≠ g4 ∧ bp < w.heap.size ∧ B ≤ w.heap.size
  r3 : Row wr g3 24 #[.pointer (some ⟨b, 0, none⟩)]
  r4 : Row wr g4 100 #[.func (.func 59) #[] #[]]
  be : Below B w wr
theorem BK.step {N N' : Nat → Prop} {R : Nat → Bool} {B bp g3 g4 b K : Nat} {w wr w' : World} {s0 sl : Value} {rest : List Sn} {es : List En} (h : BK N R B bp g3 g4 b w wr s0 rest K N' sl es) (hb : Below wr.heap.size wr w') : BK N R B bp g3 g4 b w w' s0 rest K N' sl es :=
  ⟨h.ga.keep fun q h1 h2 => hb.cell (by have := h.ne.2.2.2.2.1; have := h.be.size; omega), h.mq, h.ky, h.sp_, h.st.step hb, ⟨h.nx.old, fun x hx hn => h.nx.new x (Nat.le_trans hb.size hx) hn, h.nx.sub⟩, h.ow, h.ne, h.r3.below hb h.r3.lt, h.r4.below hb h.r4.lt, h.be.trans (hb.mono (Nat.le_trans h.ne.2.2.2.2.2 h.be.size))⟩
/-- A key's pieces are laid. -/
theorem BK.next {N N' : Nat → Prop} {R : Nat → Bool} {B bp g3 g4 b K k n : Nat} {w wr w' : World} {s0 t0 sl : Value} {rest : List Sn} {es : List En} (h : BK N R B bp g3 g4 b w wr s0 rest K N' sl es) (hp : Put N' (.pointer (some ⟨b, 0, none⟩)) R b (k + 1) sl wr w')
    (ht : Gs2 eSp wr bp (bp + 1) t0 (rest.drop n)) (ha : ∀ s ∈ rest.take n, skey s = k) (hb : ∀ s ∈ rest.drop n, k < skey s) (hKk : K ≤ k) :
    ∃ N'' sl' es', BK N R B bp g3 g4 b w w' t0 (rest.drop n) (k + 1) N'' sl' es' := by
  obtain ⟨⟨N'', s', es', S, X, O⟩, F⟩ := hp
  have hs := h.be.size
  have hbs := h.ne.2.2.2.2.1
  have M : ∀ x, x ≠ b → (∀ g, sl.ownBlock = some g → x ≠ g) → ¬ (x = b ∨ sl.ownBlock = some x) := fun x h1 h2 h3 => by
    rcases h3 with e | e
    · exact h1 e
    · exact h2 x e rfl
  refine ⟨N'', s', es', ht.keep fun q h1 h2 => ?_, ?_, fun s hs => hb s hs, fun x hx => ?_, S, h.nx.trans X hs F.size, fun g hg => ?_, h.ne, h.r3.keep (F.block g3 h.r3.lt (M _ (fun e => h.ne.2.2.1 e.symm) (fun g hg e => (h.ow g hg).2.2.1 e.symm))), h.r4.keep (F.block g4 h.r4.lt (M _ (fun e => h.ne.2.2.2.1 e.symm) (fun g hg e => (h.ow g hg).2.2.2 e.symm))), h.be.trans (F.below (fun k hk hm => ?_) (Nat.le_trans h.ne.2.2.2.2.2 hs))⟩
  · have e : q.block = bp := by omega
    exact World.cell?_of_block (F.block _ (by omega) (by rw [e]; exact M _ (fun e => h.ne.2.1 e.symm) (fun g hg e => (h.ow g hg).2.1 e.symm)))
  · obtain ⟨m, hm⟩ := h.mq
    exact ⟨m, (myq_part rest m hm n).2⟩
  · obtain ⟨m, hm⟩ := h.mq
    rw [h.sp_ x (by omega)]
    exact (sp_part (myq_in rest m hm) ha hb x).2.1 (by omega)
  · rcases O with e | ⟨g', e, hle⟩
    · exact h.ow g (e ▸ hg)
    · rw [e] at hg
      injection hg with hg
      subst hg
      have l3 := h.r3.lt
      have l4 := h.r4.lt
      exact ⟨by have := h.ne.2.2.2.2.2; omega, by omega, by omega, by omega⟩
  · rcases hm with e | e
    · exact e ▸ h.ne.1
    · exact (h.ow k e).1

theorem gss_head {w : World} {bp : Nat} {s0 : Value} {s : Sn} {r : List Sn} (h : Gs2 eSp w bp (bp + 1) s0 (s :: r)) :
    ∃ off c, s0 = .slice (some ⟨bp, off, none⟩) (s :: r).length c ∧ (s :: r).length ≤ c ∧ c ≤ maxLen ∧ w.cell? ⟨bp, off, none⟩ = some (.int .u64 s.1.toNat) ∧ w.cell? ⟨bp, off + 1, none⟩ = some (.int .u64 s.2.toNat) := by
  obtain ⟨b, off, c, e, h1, h2, x1, x2, hc⟩ := h.form (by simp)
  obtain rfl : b = bp := by omega
  have := hc 0 s rfl
  exact ⟨off, c, e, h1, h2, this.1, this.2⟩
set_option maxHeartbeats 40000000 in
set_option maxRecDepth 100000 in
theorem byKeySp_c {N : Nat → Prop} (v : Value) (L : List Sn) (R : Nat → Bool) (B bp g3 b : Nat) (sl : Value) (es : List En) (w : World) (hTB : ∀ W, Below B w W → Tb W) (hN : ∀ x, w.heap.size ≤ x → N x) (hv : Gs2 eSp w bp (bp + 1) v L) (hvl : L.length ≤ 20000000) (hq : myq 0 L) (hR : ∀ x, R x = sp L x)
    (S : Sx N w (.pointer (some ⟨b, 0, none⟩)) R b 0 sl es) (how : ∀ g, sl.ownBlock = some g → B ≤ g ∧ g ≠ bp ∧ g ≠ g3) (hne : B ≤ b ∧ b ≠ bp ∧ b ≠ g3 ∧ bp < w.heap.size ∧ B ≤ w.heap.size) (r3 : Row w g3 24 #[.pointer (some ⟨b, 0, none⟩)]) :
    Calls Tryz.prog 56 #[v, .func (.func 59) #[] #[], .func (.func 60) #[] #[.pointer (some ⟨g3, 0, none⟩)]] w fun e w' => e = .returned (.tuple #[]) ∧ (∃ N' s' es', Sx N' w' (.pointer (some ⟨b, 0, none⟩)) R b 65536 s' es' ∧ Nx N w N' w' ∧ (∀ g, s'.ownBlock = some g → B ≤ g) ∧ Row w' g3 24 #[.pointer (some ⟨b, 0, none⟩)]) ∧ Below B w w' := by
  have HE1 : Enters Tryz.prog 59 := enters_of Tryz.func59 (by kernel_rfl) rfl
  have HE2 : Enters Tryz.prog 60 := enters_of Tryz.func60 (by kernel_rfl) rfl
  unfold Enters at HE1 HE2
  have bz := bx w (.cells #[.func (.func 59) #[] #[]] 100)
  have rz := Row.new w 100 #[.func (.func 59) #[] #[]]
  have TBX := Lib.hid hTB
  have HN := Lib.hid hN
  have ST : Hid (BK N R B bp g3 w.heap.size b w (w.alloc (.cells #[.func (.func 59) #[] #[]] 100)) v L 0 N sl es) := Lib.hid
    ⟨hv.keep fun q h1 h2 => bz.cell (by have := hne.2.2.2.1; omega), ⟨0, hq⟩, fun _ _ => Nat.zero_le _, fun x _ => hR x, S.step bz, Nx.refl _ _ _,
     fun g hg => ⟨(how g hg).1, (how g hg).2.1, (how g hg).2.2, by have := own_lt S g hg; omega⟩, ⟨hne.1, hne.2.1, hne.2.2.1, by have := S.box.lt; omega, hne.2.2.2.1, hne.2.2.2.2⟩, r3.below bz r3.lt, rz, bz.mono hne.2.2.2.2⟩
  have HVL := Lib.hid hvl
  obtain ⟨g4, hg4⟩ : ∃ g4, g4 = w.heap.size := ⟨_, rfl⟩
  have hlv : lenOf v = L.length := by obtain ⟨_, _, rfl, _⟩ := hv; rfl
  have HLV := Lib.hid hlv
  clear hv hq hR S how hne r3 hTB hN hvl hlv rz bz hg4
  go_enter Tryz.func56, Tryz.ntmps56
  go_upto_region 1 with fail
  generalize w.alloc (.cells #[.func (.func 59) #[] #[]] 100) = w1 at *
  obtain ⟨w0, hw0⟩ : ∃ w0, w0 = w := ⟨_, rfl⟩
  go_loopw [0] (fun s0 wr => ∃ (rest : List Sn) (K : Nat) (N' : Nat → Prop) (sl : Value) (es : List En), K ≤ 65536 ∧ lenOf s0 = rest.length ∧ Hid (rest.length ≤ 20000000) ∧ Hid (BK N R B bp g3 w.heap.size b w wr s0 rest K N' sl es)) (fun s0 _ => lenOf s0)
  case atStart => exact ⟨L, 0, N, sl, es, by omega, HLV.out, HVL, ST⟩
  case round =>
    obtain ⟨rest, K, N', sl', es', hK, hls, hrl, hw⟩ := hrel
    have WY := hw
    have HRL := hrl
    clear hw hrl ST
    cases rest with
    | nil =>
      obtain ⟨A, c, rfl, -⟩ := WY.out.ga
      have HX : Hid ((∃ N' s' es', Sx N' wr (.pointer (some ⟨b, 0, none⟩)) R b 65536 s' es' ∧ Nx N w N' wr ∧ (∀ g, s'.ownBlock = some g → B ≤ g) ∧ Row wr g3 24 #[.pointer (some ⟨b, 0, none⟩)]) ∧ Below B w wr) := Lib.hid
        ⟨⟨N', sl', es', WY.out.st.skip hK (fun k h1 h2 => nz_not.2 fun x hx => by rw [WY.out.sp_ _ (by omega)]; rfl), WY.out.nx, fun g hg => (WY.out.ow g hg).1, WY.out.r3⟩, WY.out.be⟩
      clear WY
      go_wp2
      go_end0
      exact ⟨rfl, HX.out.1, HX.out.2⟩
    | cons s r =>
      obtain ⟨off, c, hs0, hlc, hcm, c0, c1⟩ := gss_head WY.out.ga
      obtain ⟨m0, hm0⟩ := WY.out.mq
      have hin := myq_in _ m0 hm0
      have hp32 : s.1.toNat < 4294967296 := by have := (hin s (by simp)); omega
      obtain ⟨len, hlen⟩ : ∃ len, (s :: r).length = len := ⟨_, rfl⟩
      have hlen0 : 0 < len := by rw [← hlen]; simp
      rw [hlen] at hlc hs0
      subst hs0
      obtain ⟨p, hp⟩ : ∃ p : Nat, p = s.1.toNat := ⟨_, rfl⟩
      obtain ⟨q, hq⟩ : ∃ q : Nat, q = s.2.toNat := ⟨_, rfl⟩
      rw [← hp] at c0 hp32
      rw [← hq] at c1
      obtain ⟨k, hk⟩ : ∃ k : Nat, p / 65536 = k := ⟨_, rfl⟩
      have hks : skey s = k := by unfold skey; rw [← hp]; exact hk
      have hKk : K ≤ k := by rw [← hks]; exact WY.out.ky s (by simp)
      have hk2 : k < 65536 := by omega
      have HKS := Lib.hid hks
      have HP32 := Lib.hid hp32
      have HHK := Lib.hid hk
      have HIN := Lib.hid hin
      have HM0 := Lib.hid hm0
      have HLEN := Lib.hid hlen
      have HLB : Hid ((s :: r).length ≤ 100000000) := Lib.hid (by have := HRL.out; omega)
      have hcall := fun W => spanKey_c p q W hp32
      rw [hk] at hcall
      have hl0 : (len : Int) > 0 := by omega
      have hl1 : 0 < len := hlen0
      have hl2 : (0 : Int) < len := by omega
      have r4 := WY.out.r4
      have CF : Hid (∀ W, Below wr.heap.size wr W → W.cell? ⟨w.heap.size, 0, none⟩ = some (.func (.func 59) #[] #[]) ∧ W.cell? ⟨bp, off, none⟩ = some (.int .u64 (p : Int)) ∧ W.cell? ⟨bp, off + 1, none⟩ = some (.int .u64 (q : Int))) := Lib.hid (fun W hW => by
        have hbp : bp < wr.heap.size := Nat.lt_of_lt_of_le WY.out.ne.2.2.2.2.1 WY.out.be.size
        exact ⟨(r4.below hW r4.lt).cell 0, (hW.cell (p := ⟨bp, off, none⟩) hbp).trans c0, (hW.cell (p := ⟨bp, off + 1, none⟩) hbp).trans c1⟩)
      clear hin hm0 hp hq hk hks hlen hp32 c0 c1 r4
      have hSc : Below wr.heap.size wr wr.drew := (Below.refl wr.heap.size wr).drew
      go_wp2_with fail
      refine wp_region_held_drew (S := fun W => Below wr.heap.size wr W) (by kernel_rfl) hSc (fun _ => ?_)
      refine held_take 0 ?_ rfl (by kernel_rfl) (by kernel_rfl) (by kernel_rfl) (fun _ _ _ h => h) (by rfl) ?_ hSc ?_
      rotate_left
      · (intro W hSW; obtain ⟨k0, k1, k2⟩ := CF.out W hSW; go_simp; try rfl)
      try simp only [Act.put, List.setIfInBounds_toArray, List.set_cons_zero, List.set_cons_succ]
      refine held_take 1 ?_ rfl (by kernel_rfl) (by kernel_rfl) (by kernel_rfl) (fun _ _ _ h => h) (by rfl) ?_ hSc ?_
      rotate_left
      · (intro W hSW; go_simp; try rfl)
      try simp only [Act.put, List.setIfInBounds_toArray, List.set_cons_zero, List.set_cons_succ]
      refine held_take 2 ?_ rfl (by kernel_rfl) (by kernel_rfl) (by kernel_rfl) (fun _ _ _ h => h) (by rfl) ?_ hSc ?_
      rotate_left
      · (intro W hSW; go_simp; try rfl)
      try simp only [Act.put, List.setIfInBounds_toArray, List.set_cons_zero, List.set_cons_succ]
      refine held_take 3 ?_ rfl (by kernel_rfl) (by kernel_rfl) (by kernel_rfl) (fun _ _ _ h => h) (by rfl) ?_ hSc ?_
      rotate_left
      · (intro W hSW; obtain ⟨k0, k1, k2⟩ := CF.out W hSW; go_simp; try rfl)
      try simp only [Act.put, List.setIfInBounds_toArray, List.set_cons_zero, List.set_cons_succ]
      refine held_two 4 5 rfl rfl (by kernel_rfl) (by rfl) (by rfl) ?_ ?_
      · skip
        go_simp
        refine (hcall _).mono ?_
        rintro e wq ⟨rfl, bq⟩
        have hS2 : Below wr.heap.size wr wq := hSc.trans (bq.mono hSc.size)
        clear bq
        refine ⟨fun W => Below wr.heap.size wr W, fun W hW => hW, hS2, ?_⟩
        try simp only [Act.put, List.setIfInBounds_toArray, List.set_cons_zero, List.set_cons_succ]
        refine held_next 5 rfl (by kernel_rfl) (by rfl) ?_
        go_simp
        have rz := Row.new wq 72 #[.int .u16 0]
        have bz := bx wq (.cells #[.int .u16 0] 72)
        have hg6 : wr.heap.size ≤ wq.heap.size := hS2.size
        obtain ⟨g6, hg⟩ : ∃ g6, g6 = wq.heap.size := ⟨_, rfl⟩
        rw [← hg] at rz hg6
        have hS3 : Below wr.heap.size wr (wq.alloc (.cells #[.int .u16 0] 72)) := hS2.trans (bz.mono hS2.size)
        generalize wq.alloc (.cells #[.int .u16 0] 72) = w5 at *
        rw [← hg]
        clear hg
        refine ⟨fun W => Below wr.heap.size wr W, fun W hW => hW, hS3, ?_⟩
        try simp only [Act.put, List.setIfInBounds_toArray, List.set_cons_zero, List.set_cons_succ]
        have d0 := rz.cell 0
        have d0 : w5.cell? ⟨g6, 0, none⟩ = some (.int .u16 0) := d0
        have f0 := rz.frozen 0
        have R3 := rz.one_set (.int .u16 (k : Int))
        have G4 := grown_set w5 g6 0 (.int .u16 (k : Int))
        refine held_next 6 rfl (by kernel_rfl) (by rfl) ?_
        go_simp
        generalize w5.setCell ⟨g6, 0, none⟩ (.int .u16 (k : Int)) = W6 at *
        have hS4 : Below wr.heap.size wr W6 := hS3.grown G4 hS3.size (fun j e => by injection e with e; omega)
        refine ⟨fun W => Below wr.heap.size wr W, fun W hW => hW, hS4, ?_⟩
        refine wpAnyH_done (by kernel_rfl) ?_ _
        have HB6 := Lib.hid hS4
        have R6 := Lib.hid R3
        have HG6 := Lib.hid hg6
        have HGW : Hid (Gs2 eSp W6 0 W6.heap.size (.slice (some ⟨bp, off, none⟩) len c) (s :: r)) := Lib.hid (by
          have := (WY.out.step hS4).ga
          exact this.more (Nat.zero_le _) (Nat.lt_of_lt_of_le WY.out.ne.2.2.2.2.1 (Nat.le_trans WY.out.be.size hS4.size)))
        have H32 : Hid (∀ t ∈ s :: r, t.1.toNat < 4294967296) := Lib.hid (fun t ht => by have := HIN.out t ht; omega)
        have TX : Hid (∀ W, Below B w W → Tb W) := TBX
        clear d0 f0 R3 G4 hS4 hS3 hS2 rz bz hg6 hSc CF hcall
        have WZ := Lib.hid (WY.out.step HB6.out)
        go_wp2_with fail
        have hI := indexSp_c (.slice (some ⟨bp, off, none⟩) len c) (s :: r) k w.heap.size g6 W6 (HGW.out) HLB.out H32.out WZ.out.r4 R6.out
        refine hI.mono ?_
        clear hI
        rintro e w7 ⟨z, rfl, hz, b7⟩
        have WX := Lib.hid (WZ.out.step b7)
        have R7 := Lib.hid (R6.out.below b7 R6.out.lt)
        have HIX := Lib.hid hz
        clear hz b7
        rcases HIX.out with ⟨rfl, hall⟩ | ⟨n, rfl, hn1, hn2, hn3⟩
        · have HA : Hid (∀ t ∈ (s :: r).take len, skey t = k) := Lib.hid (fun t ht => hall t (List.mem_of_mem_take ht))
          have HB' : Hid (∀ t ∈ (s :: r).drop len, k < skey t) := Lib.hid (fun t ht => by rw [← HLEN.out, List.drop_length] at ht; cases ht)
          have hnl : len ≤ len := Nat.le_refl _
          have hn0 : 0 < len := hl1
          clear hall HIX
          have hni : (len : Int) ≤ len := by omega
          have hnc : (len : Int) ≤ c := by omega
          have hn00 : (0 : Int) ≤ len := by omega
          have hlci : (len : Int) ≤ c := by omega
          go_wp2_with fail
          have hSd : Row w7.drew g6 72 #[.int .u16 k] := R7.out
          have WD := Lib.hid (WX.out.step ((Below.refl w7.heap.size w7).drew))
          refine wp_region_held_drew (S := fun W => Row W g6 72 #[.int .u16 k]) (by kernel_rfl) hSd (fun _ => ?_)
          refine held_take 0 ?_ rfl (by kernel_rfl) (by kernel_rfl) (by kernel_rfl) (fun _ _ _ h => h) (by rfl) ?_ hSd ?_
          rotate_left
          · (intro W hSW; go_simp; try rfl)
          try simp only [Act.put, List.setIfInBounds_toArray, List.set_cons_zero, List.set_cons_succ]
          refine held_take 1 ?_ rfl (by kernel_rfl) (by kernel_rfl) (by kernel_rfl) (fun _ _ _ h => h) (by rfl) ?_ hSd ?_
          rotate_left
          · (intro W hSW; have k0 := hSW.cell 0; go_simp; try rfl)
          try simp only [Act.put, List.setIfInBounds_toArray, List.set_cons_zero, List.set_cons_succ]
          refine held_take 2 ?_ rfl (by kernel_rfl) (by kernel_rfl) (by kernel_rfl) (fun _ _ _ h => h) (by rfl) ?_ hSd ?_
          rotate_left
          · (intro W hSW; go_simp; try rfl)
          try simp only [Act.put, List.setIfInBounds_toArray, List.set_cons_zero, List.set_cons_succ]
          refine held_take 3 ?_ rfl (by kernel_rfl) (by kernel_rfl) (by kernel_rfl) (fun _ _ _ h => h) (by rfl) ?_ hSd ?_
          rotate_left
          · (intro W hSW; go_simp; try rfl)
          try simp only [Act.put, List.setIfInBounds_toArray, List.set_cons_zero, List.set_cons_succ]
          refine held_take 4 ?_ rfl (by kernel_rfl) (by kernel_rfl) (by kernel_rfl) (fun _ _ _ h => h) (by rfl) ?_ hSd ?_
          rotate_left
          · (intro W hSW; go_simp; try rfl)
          try simp only [Act.put, List.setIfInBounds_toArray, List.set_cons_zero, List.set_cons_succ]
          have GT := WD.out.ga
          have PT : Hid (∀ x, x < 65536 → sp ((s :: r).take len) (65536 * k + x) = blk R k x) := Lib.hid (fun x hx => by
            have e : (65536 * k + x) / 65536 = k := by omega
            have h1 := (sp_part (i := len) HIN.out HA.out HB'.out (65536 * k + x)).1 e
            rw [← h1]
            exact (WD.out.sp_ _ (by omega)).symm)
          have GP : Hid (∀ j, K ≤ j → j < k → nz R j = false) := Lib.hid (fun j h1 h2 => nz_not.2 fun x hx => by
            rw [WD.out.sp_ _ (by omega)]
            cases hs : sp (s :: r) (65536 * j + x) with
            | false => rfl
            | true =>
              obtain ⟨t, t1, t2⟩ := (sp_iff _ _).1 hs
              have e := ins_key (x := 65536 * j + x) ⟨(HIN.out t t1).1, (HIN.out t t1).2.1⟩ ((ins_iff _ _).2 t2)
              have hkt : k ≤ skey t := by
                have hp := (myq_rise _ m0 HM0.out).2
                rcases List.mem_cons.1 t1 with rfl | hx
                · rw [HKS.out]; exact Nat.le_refl _
                · rw [← HKS.out]; exact (List.pairwise_cons.1 hp).1 t hx
              omega)
          have HT0 : Hid (∀ t r', (s :: r).take len = t :: r' → 65536 * k ≤ t.1.toNat) := Lib.hid (fun t r' e => by
            have := HA.out t (by rw [e]; simp)
            unfold skey at this
            omega)
          have HNN : Hid (∀ x, w7.drew.heap.size ≤ x → N' x) := Lib.hid (fun x hx => WD.out.nx.new x hx (HN.out x (Nat.le_trans WD.out.be.size hx)))
          have GTK := ts_take HLEN.out GT (n := len) hnl
          have hbpw : bp + 1 ≤ w7.drew.heap.size := Nat.lt_of_lt_of_le WD.out.ne.2.2.2.2.1 WD.out.be.size
          refine held_next 5 rfl (by kernel_rfl) (by rfl) ?_
          go_simp
          refine (laySp_c (N := N') _ sl' _ R b K k g3 m0 es' ((s :: r).take len) _ (TX.out _ WD.out.be) HNN.out WD.out.st WD.out.r3 (GTK.more (Nat.zero_le _) hbpw) (myq_part _ m0 HM0.out len).1 HA.out HT0.out hKk hk2 GP.out PT.out ⟨fun e => WD.out.ne.2.2.1 e.symm, fun e => (WD.out.ow _ e).2.2.1 rfl⟩).mono ?_
          rintro e w8 ⟨rfl, hp⟩
          obtain ⟨N2, sl2, es2, W2⟩ := WD.out.next hp (ts_drop HLEN.out GT (n := len) hnl) HA.out HB'.out hKk
          have R8 : Row w8 g6 72 #[.int .u16 k] := hSd.keep (hp.2.block g6 hSd.lt (fun e => by
            rcases e with e | e
            · have := WY.out.st.box.lt; have := HG6.out; omega
            · have := own_lt WY.out.st _ e; have := HG6.out; omega))
          have WN := Lib.hid W2
          refine ⟨fun W => Row W g6 72 #[.int .u16 k], fun W hW => hW, R8, ?_⟩
          refine wpAnyH_done (by kernel_rfl) ?_ _
          have HLD : Hid (((s :: r).drop len).length = len - len) := Lib.hid (by rw [List.length_drop, HLEN.out])
          clear hp W2 R8 hSd GT GTK hbpw
          have WN := WN.out
          rw [show len - len = 0 from Nat.sub_self _] at WN
          have WN := Lib.hid WN
          go_wp2
          refine ⟨⟨_, k + 1, _, _, _, hk2, by rw [HLD.out]; simp [lenOf], Lib.hid (by rw [HLD.out]; have := HRL.out; have := HLEN.out; omega), WN⟩, ?_⟩
          simp [lenOf]
          omega
        · rw [HLEN.out] at hn1
          have hk0 : ∀ x ∈ s :: r, k ≤ skey x := fun x hx => by
            have hp := (myq_rise _ m0 HM0.out).2
            rcases List.mem_cons.1 hx with rfl | hx
            · rw [HKS.out]; exact Nat.le_refl _
            · rw [← HKS.out]; exact (List.pairwise_cons.1 hp).1 x hx
          have hgrp := grp skey (myq_rise _ m0 HM0.out).2 hk0 hn2 hn3
          have HA := Lib.hid hgrp.1
          have HB' := Lib.hid hgrp.2
          have hnl : n ≤ len := by omega
          have hn0 : 0 < n := by
            rcases Nat.eq_zero_or_pos n with h | h
            · subst h; exact absurd HKS.out (hn3 s rfl)
            · exact h
          have hz0 : decide ((n : Int) < 0) = false := decide_eq_false (by omega)
          clear hn1 hn2 hn3 hk0 hgrp HIX
          have hni : (n : Int) ≤ len := by omega
          have hnc : (n : Int) ≤ c := by omega
          have hn00 : (0 : Int) ≤ n := by omega
          have hlci : (len : Int) ≤ c := by omega
          go_wp2_with fail
          have hSd : Row w7.drew g6 72 #[.int .u16 k] := R7.out
          have WD := Lib.hid (WX.out.step ((Below.refl w7.heap.size w7).drew))
          refine wp_region_held_drew (S := fun W => Row W g6 72 #[.int .u16 k]) (by kernel_rfl) hSd (fun _ => ?_)
          refine held_take 0 ?_ rfl (by kernel_rfl) (by kernel_rfl) (by kernel_rfl) (fun _ _ _ h => h) (by rfl) ?_ hSd ?_
          rotate_left
          · (intro W hSW; go_simp; try rfl)
          try simp only [Act.put, List.setIfInBounds_toArray, List.set_cons_zero, List.set_cons_succ]
          refine held_take 1 ?_ rfl (by kernel_rfl) (by kernel_rfl) (by kernel_rfl) (fun _ _ _ h => h) (by rfl) ?_ hSd ?_
          rotate_left
          · (intro W hSW; have k0 := hSW.cell 0; go_simp; try rfl)
          try simp only [Act.put, List.setIfInBounds_toArray, List.set_cons_zero, List.set_cons_succ]
          refine held_take 2 ?_ rfl (by kernel_rfl) (by kernel_rfl) (by kernel_rfl) (fun _ _ _ h => h) (by rfl) ?_ hSd ?_
          rotate_left
          · (intro W hSW; go_simp; try rfl)
          try simp only [Act.put, List.setIfInBounds_toArray, List.set_cons_zero, List.set_cons_succ]
          refine held_take 3 ?_ rfl (by kernel_rfl) (by kernel_rfl) (by kernel_rfl) (fun _ _ _ h => h) (by rfl) ?_ hSd ?_
          rotate_left
          · (intro W hSW; go_simp; try rfl)
          try simp only [Act.put, List.setIfInBounds_toArray, List.set_cons_zero, List.set_cons_succ]
          refine held_take 4 ?_ rfl (by kernel_rfl) (by kernel_rfl) (by kernel_rfl) (fun _ _ _ h => h) (by rfl) ?_ hSd ?_
          rotate_left
          · (intro W hSW; go_simp; try rfl)
          try simp only [Act.put, List.setIfInBounds_toArray, List.set_cons_zero, List.set_cons_succ]
          have GT := WD.out.ga
          have PT : Hid (∀ x, x < 65536 → sp ((s :: r).take n) (65536 * k + x) = blk R k x) := Lib.hid (fun x hx => by
            have e : (65536 * k + x) / 65536 = k := by omega
            have h1 := (sp_part (i := n) HIN.out HA.out HB'.out (65536 * k + x)).1 e
            rw [← h1]
            exact (WD.out.sp_ _ (by omega)).symm)
          have GP : Hid (∀ j, K ≤ j → j < k → nz R j = false) := Lib.hid (fun j h1 h2 => nz_not.2 fun x hx => by
            rw [WD.out.sp_ _ (by omega)]
            cases hs : sp (s :: r) (65536 * j + x) with
            | false => rfl
            | true =>
              obtain ⟨t, t1, t2⟩ := (sp_iff _ _).1 hs
              have e := ins_key (x := 65536 * j + x) ⟨(HIN.out t t1).1, (HIN.out t t1).2.1⟩ ((ins_iff _ _).2 t2)
              have hkt : k ≤ skey t := by
                have hp := (myq_rise _ m0 HM0.out).2
                rcases List.mem_cons.1 t1 with rfl | hx
                · rw [HKS.out]; exact Nat.le_refl _
                · rw [← HKS.out]; exact (List.pairwise_cons.1 hp).1 t hx
              omega)
          have HT0 : Hid (∀ t r', (s :: r).take n = t :: r' → 65536 * k ≤ t.1.toNat) := Lib.hid (fun t r' e => by
            have := HA.out t (by rw [e]; simp)
            unfold skey at this
            omega)
          have HNN : Hid (∀ x, w7.drew.heap.size ≤ x → N' x) := Lib.hid (fun x hx => WD.out.nx.new x hx (HN.out x (Nat.le_trans WD.out.be.size hx)))
          have GTK := ts_take HLEN.out GT (n := n) hnl
          have hbpw : bp + 1 ≤ w7.drew.heap.size := Nat.lt_of_lt_of_le WD.out.ne.2.2.2.2.1 WD.out.be.size
          refine held_next 5 rfl (by kernel_rfl) (by rfl) ?_
          go_simp
          refine (laySp_c (N := N') _ sl' _ R b K k g3 m0 es' ((s :: r).take n) _ (TX.out _ WD.out.be) HNN.out WD.out.st WD.out.r3 (GTK.more (Nat.zero_le _) hbpw) (myq_part _ m0 HM0.out n).1 HA.out HT0.out hKk hk2 GP.out PT.out ⟨fun e => WD.out.ne.2.2.1 e.symm, fun e => (WD.out.ow _ e).2.2.1 rfl⟩).mono ?_
          rintro e w8 ⟨rfl, hp⟩
          obtain ⟨N2, sl2, es2, W2⟩ := WD.out.next hp (ts_drop HLEN.out GT (n := n) hnl) HA.out HB'.out hKk
          have R8 : Row w8 g6 72 #[.int .u16 k] := hSd.keep (hp.2.block g6 hSd.lt (fun e => by
            rcases e with e | e
            · have := WY.out.st.box.lt; have := HG6.out; omega
            · have := own_lt WY.out.st _ e; have := HG6.out; omega))
          have WN := Lib.hid W2
          refine ⟨fun W => Row W g6 72 #[.int .u16 k], fun W hW => hW, R8, ?_⟩
          refine wpAnyH_done (by kernel_rfl) ?_ _
          have HLD : Hid (((s :: r).drop n).length = len - n) := Lib.hid (by rw [List.length_drop, HLEN.out])
          clear hp W2 R8 hSd GT GTK hbpw
          go_wp2
          refine ⟨⟨_, k + 1, _, _, _, hk2, by rw [HLD.out]; rfl, Lib.hid (by rw [HLD.out]; have := HRL.out; have := HLEN.out; omega), WN⟩, ?_⟩
          show len - n < lenOf _
          simp [lenOf]
          omega
      · skip
        go_simp
        have rz := Row.new wr.drew 72 #[.int .u16 0]
        have bz := bx wr.drew (.cells #[.int .u16 0] 72)
        have hg6 : wr.heap.size ≤ wr.heap.size := Nat.le_refl _
        have rz : Row (wr.drew.alloc (.cells #[.int .u16 0] 72)) wr.heap.size 72 #[.int .u16 0] := rz
        have hS2 : Below wr.heap.size wr (wr.drew.alloc (.cells #[.int .u16 0] 72)) := hSc.trans bz
        have hS2 : Below wr.heap.size wr (wr.alloc (.cells #[.int .u16 0] 72)).drew := hS2
        have rz : Row (wr.alloc (.cells #[.int .u16 0] 72)).drew wr.heap.size 72 #[.int .u16 0] := rz
        first
          | generalize (wr.alloc (.cells #[.int .u16 0] 72)).drew = wq at *
          | generalize wr.drew.alloc (.cells #[.int .u16 0] 72) = wq at *
        refine ⟨fun W => Below wr.heap.size wr W, fun W hW => hW, hS2, ?_⟩
        try simp only [Act.put, List.setIfInBounds_toArray, List.set_cons_zero, List.set_cons_succ]
        refine held_next 4 rfl (by kernel_rfl) (by rfl) ?_
        go_simp
        refine (hcall _).mono ?_
        rintro e w5 ⟨rfl, bq⟩
        have hS3 : Below wr.heap.size wr w5 := hS2.trans (bq.mono hS2.size)
        have rz := rz.below bq rz.lt
        clear bq
        refine ⟨fun W => Below wr.heap.size wr W, fun W hW => hW, hS3, ?_⟩
        try simp only [Act.put, List.setIfInBounds_toArray, List.set_cons_zero, List.set_cons_succ]
        have d0 := rz.cell 0
        have d0 : w5.cell? ⟨wr.heap.size, 0, none⟩ = some (.int .u16 0) := d0
        have f0 := rz.frozen 0
        have R3 := rz.one_set (.int .u16 (k : Int))
        have G4 := grown_set w5 wr.heap.size 0 (.int .u16 (k : Int))
        refine held_next 6 rfl (by kernel_rfl) (by rfl) ?_
        go_simp
        generalize w5.setCell ⟨wr.heap.size, 0, none⟩ (.int .u16 (k : Int)) = W6 at *
        have hS4 : Below wr.heap.size wr W6 := hS3.grown G4 hS3.size (fun j e => by injection e with e; omega)
        refine ⟨fun W => Below wr.heap.size wr W, fun W hW => hW, hS4, ?_⟩
        refine wpAnyH_done (by kernel_rfl) ?_ _
        have HB6 := Lib.hid hS4
        have R6 := Lib.hid R3
        have HG6 := Lib.hid hg6
        have HGW : Hid (Gs2 eSp W6 0 W6.heap.size (.slice (some ⟨bp, off, none⟩) len c) (s :: r)) := Lib.hid (by
          have := (WY.out.step hS4).ga
          exact this.more (Nat.zero_le _) (Nat.lt_of_lt_of_le WY.out.ne.2.2.2.2.1 (Nat.le_trans WY.out.be.size hS4.size)))
        have H32 : Hid (∀ t ∈ s :: r, t.1.toNat < 4294967296) := Lib.hid (fun t ht => by have := HIN.out t ht; omega)
        have TX : Hid (∀ W, Below B w W → Tb W) := TBX
        clear d0 f0 R3 G4 hS4 hS3 hS2 rz hg6 hSc CF hcall
        have WZ := Lib.hid (WY.out.step HB6.out)
        go_wp2_with fail
        have hI := indexSp_c (.slice (some ⟨bp, off, none⟩) len c) (s :: r) k w.heap.size wr.heap.size W6 (HGW.out) HLB.out H32.out WZ.out.r4 R6.out
        refine hI.mono ?_
        clear hI
        rintro e w7 ⟨z, rfl, hz, b7⟩
        have WX := Lib.hid (WZ.out.step b7)
        have R7 := Lib.hid (R6.out.below b7 R6.out.lt)
        have HIX := Lib.hid hz
        clear hz b7
        rcases HIX.out with ⟨rfl, hall⟩ | ⟨n, rfl, hn1, hn2, hn3⟩
        · have HA : Hid (∀ t ∈ (s :: r).take len, skey t = k) := Lib.hid (fun t ht => hall t (List.mem_of_mem_take ht))
          have HB' : Hid (∀ t ∈ (s :: r).drop len, k < skey t) := Lib.hid (fun t ht => by rw [← HLEN.out, List.drop_length] at ht; cases ht)
          have hnl : len ≤ len := Nat.le_refl _
          have hn0 : 0 < len := hl1
          clear hall HIX
          have hni : (len : Int) ≤ len := by omega
          have hnc : (len : Int) ≤ c := by omega
          have hn00 : (0 : Int) ≤ len := by omega
          have hlci : (len : Int) ≤ c := by omega
          go_wp2_with fail
          have hSd : Row w7.drew wr.heap.size 72 #[.int .u16 k] := R7.out
          have WD := Lib.hid (WX.out.step ((Below.refl w7.heap.size w7).drew))
          refine wp_region_held_drew (S := fun W => Row W wr.heap.size 72 #[.int .u16 k]) (by kernel_rfl) hSd (fun _ => ?_)
          refine held_take 0 ?_ rfl (by kernel_rfl) (by kernel_rfl) (by kernel_rfl) (fun _ _ _ h => h) (by rfl) ?_ hSd ?_
          rotate_left
          · (intro W hSW; go_simp; try rfl)
          try simp only [Act.put, List.setIfInBounds_toArray, List.set_cons_zero, List.set_cons_succ]
          refine held_take 1 ?_ rfl (by kernel_rfl) (by kernel_rfl) (by kernel_rfl) (fun _ _ _ h => h) (by rfl) ?_ hSd ?_
          rotate_left
          · (intro W hSW; have k0 := hSW.cell 0; go_simp; try rfl)
          try simp only [Act.put, List.setIfInBounds_toArray, List.set_cons_zero, List.set_cons_succ]
          refine held_take 2 ?_ rfl (by kernel_rfl) (by kernel_rfl) (by kernel_rfl) (fun _ _ _ h => h) (by rfl) ?_ hSd ?_
          rotate_left
          · (intro W hSW; go_simp; try rfl)
          try simp only [Act.put, List.setIfInBounds_toArray, List.set_cons_zero, List.set_cons_succ]
          refine held_take 3 ?_ rfl (by kernel_rfl) (by kernel_rfl) (by kernel_rfl) (fun _ _ _ h => h) (by rfl) ?_ hSd ?_
          rotate_left
          · (intro W hSW; go_simp; try rfl)
          try simp only [Act.put, List.setIfInBounds_toArray, List.set_cons_zero, List.set_cons_succ]
          refine held_take 4 ?_ rfl (by kernel_rfl) (by kernel_rfl) (by kernel_rfl) (fun _ _ _ h => h) (by rfl) ?_ hSd ?_
          rotate_left
          · (intro W hSW; go_simp; try rfl)
          try simp only [Act.put, List.setIfInBounds_toArray, List.set_cons_zero, List.set_cons_succ]
          have GT := WD.out.ga
          have PT : Hid (∀ x, x < 65536 → sp ((s :: r).take len) (65536 * k + x) = blk R k x) := Lib.hid (fun x hx => by
            have e : (65536 * k + x) / 65536 = k := by omega
            have h1 := (sp_part (i := len) HIN.out HA.out HB'.out (65536 * k + x)).1 e
            rw [← h1]
            exact (WD.out.sp_ _ (by omega)).symm)
          have GP : Hid (∀ j, K ≤ j → j < k → nz R j = false) := Lib.hid (fun j h1 h2 => nz_not.2 fun x hx => by
            rw [WD.out.sp_ _ (by omega)]
            cases hs : sp (s :: r) (65536 * j + x) with
            | false => rfl
            | true =>
              obtain ⟨t, t1, t2⟩ := (sp_iff _ _).1 hs
              have e := ins_key (x := 65536 * j + x) ⟨(HIN.out t t1).1, (HIN.out t t1).2.1⟩ ((ins_iff _ _).2 t2)
              have hkt : k ≤ skey t := by
                have hp := (myq_rise _ m0 HM0.out).2
                rcases List.mem_cons.1 t1 with rfl | hx
                · rw [HKS.out]; exact Nat.le_refl _
                · rw [← HKS.out]; exact (List.pairwise_cons.1 hp).1 t hx
              omega)
          have HT0 : Hid (∀ t r', (s :: r).take len = t :: r' → 65536 * k ≤ t.1.toNat) := Lib.hid (fun t r' e => by
            have := HA.out t (by rw [e]; simp)
            unfold skey at this
            omega)
          have HNN : Hid (∀ x, w7.drew.heap.size ≤ x → N' x) := Lib.hid (fun x hx => WD.out.nx.new x hx (HN.out x (Nat.le_trans WD.out.be.size hx)))
          have GTK := ts_take HLEN.out GT (n := len) hnl
          have hbpw : bp + 1 ≤ w7.drew.heap.size := Nat.lt_of_lt_of_le WD.out.ne.2.2.2.2.1 WD.out.be.size
          refine held_next 5 rfl (by kernel_rfl) (by rfl) ?_
          go_simp
          refine (laySp_c (N := N') _ sl' _ R b K k g3 m0 es' ((s :: r).take len) _ (TX.out _ WD.out.be) HNN.out WD.out.st WD.out.r3 (GTK.more (Nat.zero_le _) hbpw) (myq_part _ m0 HM0.out len).1 HA.out HT0.out hKk hk2 GP.out PT.out ⟨fun e => WD.out.ne.2.2.1 e.symm, fun e => (WD.out.ow _ e).2.2.1 rfl⟩).mono ?_
          rintro e w8 ⟨rfl, hp⟩
          obtain ⟨N2, sl2, es2, W2⟩ := WD.out.next hp (ts_drop HLEN.out GT (n := len) hnl) HA.out HB'.out hKk
          have R8 : Row w8 wr.heap.size 72 #[.int .u16 k] := hSd.keep (hp.2.block wr.heap.size hSd.lt (fun e => by
            rcases e with e | e
            · have := WY.out.st.box.lt; have := HG6.out; omega
            · have := own_lt WY.out.st _ e; have := HG6.out; omega))
          have WN := Lib.hid W2
          refine ⟨fun W => Row W wr.heap.size 72 #[.int .u16 k], fun W hW => hW, R8, ?_⟩
          refine wpAnyH_done (by kernel_rfl) ?_ _
          have HLD : Hid (((s :: r).drop len).length = len - len) := Lib.hid (by rw [List.length_drop, HLEN.out])
          clear hp W2 R8 hSd GT GTK hbpw
          have WN := WN.out
          rw [show len - len = 0 from Nat.sub_self _] at WN
          have WN := Lib.hid WN
          go_wp2
          refine ⟨⟨_, k + 1, _, _, _, hk2, by rw [HLD.out]; simp [lenOf], Lib.hid (by rw [HLD.out]; have := HRL.out; have := HLEN.out; omega), WN⟩, ?_⟩
          simp [lenOf]
          omega
        · rw [HLEN.out] at hn1
          have hk0 : ∀ x ∈ s :: r, k ≤ skey x := fun x hx => by
            have hp := (myq_rise _ m0 HM0.out).2
            rcases List.mem_cons.1 hx with rfl | hx
            · rw [HKS.out]; exact Nat.le_refl _
            · rw [← HKS.out]; exact (List.pairwise_cons.1 hp).1 x hx
          have hgrp := grp skey (myq_rise _ m0 HM0.out).2 hk0 hn2 hn3
          have HA := Lib.hid hgrp.1
          have HB' := Lib.hid hgrp.2
          have hnl : n ≤ len := by omega
          have hn0 : 0 < n := by
            rcases Nat.eq_zero_or_pos n with h | h
            · subst h; exact absurd HKS.out (hn3 s rfl)
            · exact h
          have hz0 : decide ((n : Int) < 0) = false := decide_eq_false (by omega)
          clear hn1 hn2 hn3 hk0 hgrp HIX
          have hni : (n : Int) ≤ len := by omega
          have hnc : (n : Int) ≤ c := by omega
          have hn00 : (0 : Int) ≤ n := by omega
          have hlci : (len : Int) ≤ c := by omega
          go_wp2_with fail
          have hSd : Row w7.drew wr.heap.size 72 #[.int .u16 k] := R7.out
          have WD := Lib.hid (WX.out.step ((Below.refl w7.heap.size w7).drew))
          refine wp_region_held_drew (S := fun W => Row W wr.heap.size 72 #[.int .u16 k]) (by kernel_rfl) hSd (fun _ => ?_)
          refine held_take 0 ?_ rfl (by kernel_rfl) (by kernel_rfl) (by kernel_rfl) (fun _ _ _ h => h) (by rfl) ?_ hSd ?_
          rotate_left
          · (intro W hSW; go_simp; try rfl)
          try simp only [Act.put, List.setIfInBounds_toArray, List.set_cons_zero, List.set_cons_succ]
          refine held_take 1 ?_ rfl (by kernel_rfl) (by kernel_rfl) (by kernel_rfl) (fun _ _ _ h => h) (by rfl) ?_ hSd ?_
          rotate_left
          · (intro W hSW; have k0 := hSW.cell 0; go_simp; try rfl)
          try simp only [Act.put, List.setIfInBounds_toArray, List.set_cons_zero, List.set_cons_succ]
          refine held_take 2 ?_ rfl (by kernel_rfl) (by kernel_rfl) (by kernel_rfl) (fun _ _ _ h => h) (by rfl) ?_ hSd ?_
          rotate_left
          · (intro W hSW; go_simp; try rfl)
          try simp only [Act.put, List.setIfInBounds_toArray, List.set_cons_zero, List.set_cons_succ]
          refine held_take 3 ?_ rfl (by kernel_rfl) (by kernel_rfl) (by kernel_rfl) (fun _ _ _ h => h) (by rfl) ?_ hSd ?_
          rotate_left
          · (intro W hSW; go_simp; try rfl)
          try simp only [Act.put, List.setIfInBounds_toArray, List.set_cons_zero, List.set_cons_succ]
          refine held_take 4 ?_ rfl (by kernel_rfl) (by kernel_rfl) (by kernel_rfl) (fun _ _ _ h => h) (by rfl) ?_ hSd ?_
          rotate_left
          · (intro W hSW; go_simp; try rfl)
          try simp only [Act.put, List.setIfInBounds_toArray, List.set_cons_zero, List.set_cons_succ]
          have GT := WD.out.ga
          have PT : Hid (∀ x, x < 65536 → sp ((s :: r).take n) (65536 * k + x) = blk R k x) := Lib.hid (fun x hx => by
            have e : (65536 * k + x) / 65536 = k := by omega
            have h1 := (sp_part (i := n) HIN.out HA.out HB'.out (65536 * k + x)).1 e
            rw [← h1]
            exact (WD.out.sp_ _ (by omega)).symm)
          have GP : Hid (∀ j, K ≤ j → j < k → nz R j = false) := Lib.hid (fun j h1 h2 => nz_not.2 fun x hx => by
            rw [WD.out.sp_ _ (by omega)]
            cases hs : sp (s :: r) (65536 * j + x) with
            | false => rfl
            | true =>
              obtain ⟨t, t1, t2⟩ := (sp_iff _ _).1 hs
              have e := ins_key (x := 65536 * j + x) ⟨(HIN.out t t1).1, (HIN.out t t1).2.1⟩ ((ins_iff _ _).2 t2)
              have hkt : k ≤ skey t := by
                have hp := (myq_rise _ m0 HM0.out).2
                rcases List.mem_cons.1 t1 with rfl | hx
                · rw [HKS.out]; exact Nat.le_refl _
                · rw [← HKS.out]; exact (List.pairwise_cons.1 hp).1 t hx
              omega)
          have HT0 : Hid (∀ t r', (s :: r).take n = t :: r' → 65536 * k ≤ t.1.toNat) := Lib.hid (fun t r' e => by
            have := HA.out t (by rw [e]; simp)
            unfold skey at this
            omega)
          have HNN : Hid (∀ x, w7.drew.heap.size ≤ x → N' x) := Lib.hid (fun x hx => WD.out.nx.new x hx (HN.out x (Nat.le_trans WD.out.be.size hx)))
          have GTK := ts_take HLEN.out GT (n := n) hnl
          have hbpw : bp + 1 ≤ w7.drew.heap.size := Nat.lt_of_lt_of_le WD.out.ne.2.2.2.2.1 WD.out.be.size
          refine held_next 5 rfl (by kernel_rfl) (by rfl) ?_
          go_simp
          refine (laySp_c (N := N') _ sl' _ R b K k g3 m0 es' ((s :: r).take n) _ (TX.out _ WD.out.be) HNN.out WD.out.st WD.out.r3 (GTK.more (Nat.zero_le _) hbpw) (myq_part _ m0 HM0.out n).1 HA.out HT0.out hKk hk2 GP.out PT.out ⟨fun e => WD.out.ne.2.2.1 e.symm, fun e => (WD.out.ow _ e).2.2.1 rfl⟩).mono ?_
          rintro e w8 ⟨rfl, hp⟩
          obtain ⟨N2, sl2, es2, W2⟩ := WD.out.next hp (ts_drop HLEN.out GT (n := n) hnl) HA.out HB'.out hKk
          have R8 : Row w8 wr.heap.size 72 #[.int .u16 k] := hSd.keep (hp.2.block wr.heap.size hSd.lt (fun e => by
            rcases e with e | e
            · have := WY.out.st.box.lt; have := HG6.out; omega
            · have := own_lt WY.out.st _ e; have := HG6.out; omega))
          have WN := Lib.hid W2
          refine ⟨fun W => Row W wr.heap.size 72 #[.int .u16 k], fun W hW => hW, R8, ?_⟩
          refine wpAnyH_done (by kernel_rfl) ?_ _
          have HLD : Hid (((s :: r).drop n).length = len - n) := Lib.hid (by rw [List.length_drop, HLEN.out])
          clear hp W2 R8 hSd GT GTK hbpw
          go_wp2
          refine ⟨⟨_, k + 1, _, _, _, hk2, by rw [HLD.out]; rfl, Lib.hid (by rw [HLD.out]; have := HRL.out; have := HLEN.out; omega), WN⟩, ?_⟩
          show len - n < lenOf _
          simp [lenOf]
          omega
end Go.Proofs.YtponcpneflhpfaaGreatDoor
