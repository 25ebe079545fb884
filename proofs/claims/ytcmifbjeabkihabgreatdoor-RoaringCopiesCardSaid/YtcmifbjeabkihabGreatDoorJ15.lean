/- Walks: Add of a number to a set. -/
import Derived.Test.YtcmifbjeabkihabGreatDoorJ14
namespace Go.Proofs.YtcmifbjeabkihabGreatDoor
open Go.RowKit
set_option linter.unusedVariables false

def AddAns (N : Nat → Prop) (w : World) (v : Value) (P : Nat → Bool) (b : Nat) (s : Value) (e : Ending) (w' : World) : Prop :=
  e = .returned (.tuple #[]) ∧ ∃ N' s' es', Sx N' w' v P b 65536 s' es' ∧ Nx N w N' w' ∧ Off (fun k => k = b ∨ s.ownBlock = some k) w w'
section
variable {N : Nat → Prop} {w w3 w5 : World} {v s : Value} {P : Nat → Bool} {b g n c i x : Nat} {es pre post : List En} {cur : Array Value} {ei : En}
theorem add_keep (S : Sx N w v P b 65536 s es) (OF : Off (fun k => k = b ∨ s.ownBlock = some k) w w3) (hgM : w.heap.size ≤ g ∨ s.ownBlock = some g) {v' : Value} {p : Nat → Bool} {k : Nat} (h : Cn N w v' p k) : Cn (fun k => N k ∧ k ≠ g) w3 v' p k := by
  refine (h.mono (N' := fun k => N k ∧ k ≠ g) fun y hy hn => ⟨hn, fun e => ?_⟩).keep OF.size fun q hq hb => World.cell?_of_block (OF.block _ hb fun h => ?_)
  · subst e
    rcases hgM with h | h
    · omega
    · exact S.ns _ h hn
  · rcases h with h | h
    · exact S.nb (h ▸ hq.1)
    · exact S.ns _ h hq.1
theorem add_fin (nb : Bd) (hx : x < 4294967296) (S : Sx N w v P b 65536 s es) (OF : Off (fun k => k = b ∨ s.ownBlock = some k) w w3) (b5 : Below w3.heap.size w3 w5) (RB : Row w3 b 64 #[.slice (some ⟨g, 0, none⟩) n c]) (RG : Row w3 g eN.E cur)
    (CS : cur.size = c * 5) (NC : n ≤ c ∧ c ≤ maxLen) (PI : pre.length = i) (LEN : (pre ++ [ei] ++ post).length = n) (CT : cur.toList.take (n * 5) = eN.row (pre ++ [ei] ++ post)) (PL : Pls P (x / 65536) pre post)
    (MEM : ∀ e, e ∈ pre ∨ e ∈ post → e.key.toNat < 65536 ∧ nz P e.key.toNat = true ∧ Cn (fun k => N k ∧ k ≠ g) w3 e.b.val (blk P e.key.toNat) (ck (blk P e.key.toNat))) (KEY : ei.key.toNat = x / 65536)
    (hgM : w.heap.size ≤ g ∨ s.ownBlock = some g) (hbg : b ≠ g) (cn : Cn (fun k => N k ∧ k ≠ g) w5 nb.val (pls (blk P (x / 65536)) (x % 65536)) (ck (pls (blk P (x / 65536)) (x % 65536)))) :
    AddAns N w v (pl P x) b s (.returned (.tuple #[])) ((((w5.setCell ⟨g, i * 5 + 1, none⟩ (.int .u8 nb.κ)).setCell ⟨g, i * 5 + 2, none⟩ (.slice nb.A nb.n nb.c)).setCell ⟨g, i * 5 + 3, none⟩ (.slice nb.A2 nb.n2 nb.c2)).setCell ⟨g, i * 5 + 4, none⟩ (.slice nb.A3 nb.n3 nb.c3)) := by
  obtain ⟨⟨cur2, R6, s6, t6⟩, G6⟩ := set4i nb (RG.below b5 RG.lt) CS NC.1 PI LEN CT
  have hl : (pre ++ [(⟨ei.key, nb⟩ : En)] ++ post).length = n := by rw [← LEN]; simp
  generalize ((((w5.setCell ⟨g, i * 5 + 1, none⟩ (.int .u8 nb.κ)).setCell ⟨g, i * 5 + 2, none⟩ (.slice nb.A nb.n nb.c)).setCell ⟨g, i * 5 + 3, none⟩ (.slice nb.A2 nb.n2 nb.c2)).setCell ⟨g, i * 5 + 4, none⟩ (.slice nb.A3 nb.n3 nb.c3)) = w6 at *
  have kp : ∀ {v' : Value} {p : Nat → Bool} {k : Nat}, Cn (fun k => N k ∧ k ≠ g) w5 v' p k → Cn (fun k => N k ∧ k ≠ g) w6 v' p k := fun h =>
    h.keep G6.size fun q hq hb => World.cell?_of_block (G6.block _ hb fun e => by injection e with e; exact hq.2 e)
  refine ⟨rfl, fun k => N k ∧ k ≠ g, .slice (some ⟨g, 0, none⟩) n c, pre ++ [⟨ei.key, nb⟩] ++ post,
    ⟨S.form, (RB.below b5 RB.lt).grown G6 (fun e => by injection e with e; exact hbg e.symm), ⟨by rw [rowv_len], .inr ⟨g, c, cur2, by rw [hl], Nat.zero_le _, R6, by rw [hl]; exact NC.1, NC.2, s6, by rw [hl]; exact t6⟩⟩,
      fun h => absurd h (by simp), dir_mid hx PL.rp PL.rq PL.lo PL.hi (fun e he => ?_) PL.all KEY (kp cn), fun h => S.nb h.1, fun k hk hn => ?_, fun e => ?_⟩,
    ⟨fun y hy hn => ⟨hn, fun e => ?_⟩, fun y hy hn => ⟨hn, fun e => ?_⟩, fun y hn => hn.1⟩, ?_⟩
  · obtain ⟨a, b', c'⟩ := MEM e he
    exact ⟨a, b', kp (c'.step b5)⟩
  · have hk' : some g = some k := hk
    injection hk' with hk'
    exact hn.2 hk'.symm
  · have e' : some g = some b := e
    injection e' with e'
    exact hbg e'.symm
  · subst e
    rcases hgM with h | h
    · omega
    · exact S.ns _ h hn
  · subst e
    have := R6.lt
    omega
  · refine OF.trans ((Off.of b5).trans (off_grown2 G6) (M'' := fun y => y = g) (fun y hy h => absurd h id) (fun y _ h => h)) (fun y _ h => h) fun y hy h => ?_
    subst h
    rcases hgM with h | h
    · omega
    · exact .inr h
end
set_option maxHeartbeats 1000000 in
theorem add_has {N : Nat → Prop} (v s : Value) (P : Nat → Bool) (b x : Nat) (es : List En) (w : World) (S : Sx N w v P b 65536 s es) (hx : x < 4294967296) (hp : P x = true) :
    Calls Tryz.prog 11 #[v, .int .u32 (x : Int)] w (AddAns N w v (pl P x) b s) := by
  have HS := Lib.hid S
  have HP := Lib.hid hp
  obtain rfl := S.form
  clear S hp
  go_enter Tryz.func11, Tryz.ntmps11
  go_wp2_with fail
  refine (sethas_c _ P x w HS.out.st hx).mono ?_
  rintro e u1 ⟨rfl, b1⟩
  rw [HP.out]
  have A : Hid (AddAns N w (.pointer (some ⟨b, 0, none⟩)) (pl P x) b s (.returned (.tuple #[])) u1) := Lib.hid ⟨rfl, N, s, es, by rw [pl_has HP.out]; exact HS.out.step b1, Nx.refl _ _ _, (Off.of b1).trans (Off.of (Below.refl _ _)) (fun y hy h => absurd h (Nat.not_le_of_lt hy)) (fun y hy h => absurd h (Nat.not_le_of_lt hy))⟩
  clear b1
  go_wp2
  exact bodyPost_ret (results_none rfl _ _ _) rfl A.out
theorem cell_four (b g i : Nat) (κ : Int) (a c d : Value) (w : World) (h : b ≠ g) : ((((w.setCell ⟨g, i * 5 + 1, none⟩ (.int .u8 κ)).setCell ⟨g, i * 5 + 2, none⟩ a).setCell ⟨g, i * 5 + 3, none⟩ c).setCell ⟨g, i * 5 + 4, none⟩ d).cell? ⟨b, 0, none⟩ = w.cell? ⟨b, 0, none⟩ := by
  have e : ∀ (w : World) (k : Nat) (u : Value), (w.setCell ⟨g, k, none⟩ u).cell? ⟨b, 0, none⟩ = w.cell? ⟨b, 0, none⟩ := fun w k u => World.cell?_of_block (Below.heap_setCell w ⟨g, k, none⟩ u b h)
  rw [e, e, e, e]
set_option maxHeartbeats 16000000 in
set_option maxRecDepth 100000 in
theorem add_there {N : Nat → Prop} (v s : Value) (P : Nat → Bool) (b x : Nat) (es : List En) (w : World) (hTO : ∀ W, Off (fun k => k = b ∨ s.ownBlock = some k) w W → Tb W) (hN : ∀ k, w.heap.size ≤ k → N k) (S : Sx N w v P b 65536 s es) (hx : x < 4294967296) (hp : P x = false) (hz : nz P (x / 65536) = true) :
    Calls Tryz.prog 11 #[v, .int .u32 (x : Int)] w (AddAns N w v (pl P x) b s) := by
  have HS := Lib.hid S
  have HP := Lib.hid hp
  have HZ := Lib.hid hz
  have HN := Lib.hid hN
  have HTO := Lib.hid hTO
  obtain rfl := S.form
  clear S hp hz hN hTO
  go_enter Tryz.func11, Tryz.ntmps11
  go_wp2_with fail
  refine (sethas_c _ P x w HS.out.st hx).mono ?_
  rintro e u1 ⟨rfl, b1⟩
  rw [HP.out]
  have S1 := Lib.hid (HS.out.step b1)
  have B1 := Lib.hid b1
  clear b1
  go_wp2_with fail
  refine (high_c x _ hx).mono ?_
  rintro e wq ⟨rfl, hz⟩
  have hz := hz.symm
  subst hz
  go_wp2_with fail
  refine (find_c P b (x / 65536) s es u1 S1.out.box (S1.out.arr.sl.more (Nat.zero_le _) (Nat.le_refl _)) S1.out.dir (by omega)).mono ?_
  rintro e u2 ⟨i, rfl, F, b2⟩
  rw [HZ.out]
  have S2 := Lib.hid (S1.out.step b2)
  have B2 := Lib.hid (below_both B1.out b2)
  have HF := Lib.hid F
  clear b2 F S1 B1
  obtain ⟨e0, he0, hke⟩ := HF.out.at_ HZ.out
  have hil := (List.getElem?_eq_some_iff.1 he0).1
  rcases S2.out.arr.2 with ⟨rfl, h0⟩ | ⟨g, c, cur, rfl, hgb, hgr, hgn, hgm, hgs, hgt⟩
  · omega
  obtain ⟨PLS, hes⟩ := pls_yes HS.out.dir he0 hke
  obtain ⟨n, hn⟩ : ∃ n, es.length = n := ⟨_, rfl⟩
  rw [hn] at hgn hgt ⊢
  obtain ⟨kk, bd⟩ := e0
  have OFF : Hid (Off (fun k => k = b ∨ (Value.slice (some ⟨g, 0, none⟩) es.length c).ownBlock = some k) w u2) := Lib.hid ((Off.of B2.out).trans (Off.of (Below.refl _ _)) (fun y hy h => absurd h id) (fun y hy h => absurd h id))
  have HGM : Hid (w.heap.size ≤ g ∨ (Value.slice (some ⟨g, 0, none⟩) es.length c).ownBlock = some g) := Lib.hid (.inr rfl)
  have HBG : Hid (b ≠ g) := Lib.hid (fun e => HS.out.nbs (by rw [e]; rfl))
  have T3 := Lib.hid (HTO.out u2 OFF.out)
  have PL := Lib.hid PLS
  have KEY : Hid ((⟨kk, bd⟩ : En).key.toNat = x / 65536) := Lib.hid hke
  have PI : Hid ((es.take i).length = i) := Lib.hid (by rw [List.length_take]; omega)
  have LEN : Hid ((es.take i ++ [(⟨kk, bd⟩ : En)] ++ es.drop (i + 1)).length = n) := Lib.hid (by rw [← hes]; exact hn)
  have CT : Hid (cur.toList.take (n * 5) = eN.row (es.take i ++ [(⟨kk, bd⟩ : En)] ++ es.drop (i + 1))) := Lib.hid (by rw [← hes]; exact hgt)
  have CS : Hid (cur.size = c * 5) := Lib.hid hgs
  have NC : Hid (n ≤ c ∧ c ≤ maxLen) := Lib.hid ⟨hgn, hgm⟩
  have RG : Hid (Row u2 g eN.E cur) := Lib.hid hgr
  have RB : Hid (Row u2 b 64 #[.slice (some ⟨g, 0, none⟩) n c]) := Lib.hid (by rw [← hn]; exact S2.out.box)
  have MEM : Hid (∀ e, e ∈ es.take i ∨ e ∈ es.drop (i + 1) → e.key.toNat < 65536 ∧ nz P e.key.toNat = true ∧ Cn (fun k => N k ∧ k ≠ g) u2 e.b.val (blk P e.key.toNat) (ck (blk P e.key.toNat))) := Lib.hid (fun e he => by
    have hm : e ∈ es := he.elim (fun h => List.mem_of_mem_take h) (fun h => List.mem_of_mem_drop h)
    obtain ⟨-, a1, a2, a3⟩ := HS.out.dir.mem e hm
    exact ⟨a1, a2, add_keep HS.out OFF.out HGM.out a3⟩)
  have CN : Hid (Cn (fun k => N k ∧ k ≠ g) u2 bd.val (blk P (x / 65536)) (ck (blk P (x / 65536)))) := Lib.hid (by
    obtain ⟨-, -, -, a3⟩ := HS.out.dir.mem _ (List.mem_of_getElem? he0)
    rw [hke] at a3
    exact add_keep HS.out OFF.out HGM.out a3)
  generalize es.take i = pre at *
  generalize es.drop (i + 1) = post at *
  clear hgb hgr hgn hgm hgs hgt PLS hes hke he0 hil HF S2 B2 HZ HP hn
  generalize u2 = w3 at *
  have hS4 : w3.cell? ⟨b, 0, none⟩ = some (.slice (some ⟨g, 0, none⟩) n c) := RB.out.cell 0
  have CAT : Hid (∀ t, t < 5 → cur[i * 5 + t]? = (eN.cs ⟨kk, bd⟩)[t]?) := Lib.hid (fun t ht => cur_at PI.out LEN.out CT.out t ht)
  have k0 : w3.cell? ⟨g, i * 5 + 1, none⟩ = some (.int .u8 bd.κ) := (RG.out.cell (i * 5 + 1)).trans (CAT.out 1 (by omega))
  have k1 : w3.cell? ⟨g, i * 5 + 2, none⟩ = some (.slice bd.A bd.n bd.c) := (RG.out.cell (i * 5 + 2)).trans (CAT.out 2 (by omega))
  have k2 : w3.cell? ⟨g, i * 5 + 3, none⟩ = some (.slice bd.A2 bd.n2 bd.c2) := (RG.out.cell (i * 5 + 3)).trans (CAT.out 3 (by omega))
  have k3 : w3.cell? ⟨g, i * 5 + 4, none⟩ = some (.slice bd.A3 bd.n3 bd.c3) := (RG.out.cell (i * 5 + 4)).trans (CAT.out 4 (by omega))
  have hin : (i : Int) < (n : Int) := by have h1 := LEN.out; have h2 := PI.out; simp at h1; omega
  go_wp2_with fail
  refine wp_region_held_drew (S := fun W => W.cell? ⟨b, 0, none⟩ = some (.slice (some ⟨g, 0, none⟩) n c)) (by kernel_rfl) hS4 (fun _ => ?_)
  refine held_take 0 ?_ rfl (by kernel_rfl) (by kernel_rfl) (by kernel_rfl) (fun _ _ _ h => h) (by rfl) ?_ hS4 ?_
  rotate_left
  · (intro W hSW; go_simp; try rfl)
  try simp only [Act.put, List.setIfInBounds_toArray, List.set_cons_zero, List.set_cons_succ]
  refine held_take 1 ?_ rfl (by kernel_rfl) (by kernel_rfl) (by kernel_rfl) (fun _ _ _ h => h) (by rfl) ?_ hS4 ?_
  rotate_left
  · (intro W hSW; go_simp; try rfl)
  try simp only [Act.put, List.setIfInBounds_toArray, List.set_cons_zero, List.set_cons_succ]
  refine held_take 2 ?_ rfl (by kernel_rfl) (by kernel_rfl) (by kernel_rfl) (fun _ _ _ h => h) (by rfl) ?_ hS4 ?_
  rotate_left
  · (intro W hSW; go_simp; try rfl)
  try simp only [Act.put, List.setIfInBounds_toArray, List.set_cons_zero, List.set_cons_succ]
  refine held_take 3 ?_ rfl (by kernel_rfl) (by kernel_rfl) (by kernel_rfl) (fun _ _ _ h => h) (by rfl) ?_ hS4 ?_
  rotate_left
  · (intro W hSW; have hc := hSW; go_simp; try rfl)
  try simp only [Act.put, List.setIfInBounds_toArray, List.set_cons_zero, List.set_cons_succ]
  refine held_take 4 ?_ rfl (by kernel_rfl) (by kernel_rfl) (by kernel_rfl) (fun _ _ _ h => h) (by rfl) ?_ hS4 ?_
  rotate_left
  · (intro W hSW; go_simp; try rfl)
  try simp only [Act.put, List.setIfInBounds_toArray, List.set_cons_zero, List.set_cons_succ]
  refine held_take 5 ?_ rfl (by kernel_rfl) (by kernel_rfl) (by kernel_rfl) (fun _ _ _ h => h) (by rfl) ?_ hS4 ?_
  rotate_left
  · (intro W hSW; go_simp; try rfl)
  try simp only [Act.put, List.setIfInBounds_toArray, List.set_cons_zero, List.set_cons_succ]
  refine held_take 6 ?_ rfl (by kernel_rfl) (by kernel_rfl) (by kernel_rfl) (fun _ _ _ h => h) (by rfl) ?_ hS4 ?_
  rotate_left
  · (intro W hSW; go_simp; try rfl)
  try simp only [Act.put, List.setIfInBounds_toArray, List.set_cons_zero, List.set_cons_succ]
  refine held_take 7 ?_ rfl (by kernel_rfl) (by kernel_rfl) (by kernel_rfl) (fun _ _ _ h => h) (by rfl) ?_ hS4 ?_
  rotate_left
  · (intro W hSW; go_simp; try rfl)
  try simp only [Act.put, List.setIfInBounds_toArray, List.set_cons_zero, List.set_cons_succ]
  refine held_take 8 ?_ rfl (by kernel_rfl) (by kernel_rfl) (by kernel_rfl) (fun _ _ _ h => h) (by rfl) ?_ hS4 ?_
  rotate_left
  · (intro W hSW; have hc := hSW; go_simp; try rfl)
  try simp only [Act.put, List.setIfInBounds_toArray, List.set_cons_zero, List.set_cons_succ]
  refine held_take 9 ?_ rfl (by kernel_rfl) (by kernel_rfl) (by kernel_rfl) (fun _ _ _ h => h) (by rfl) ?_ hS4 ?_
  rotate_left
  · (intro W hSW; go_simp; try rfl)
  try simp only [Act.put, List.setIfInBounds_toArray, List.set_cons_zero, List.set_cons_succ]
  refine held_take 10 ?_ rfl (by kernel_rfl) (by kernel_rfl) (by kernel_rfl) (fun _ _ _ h => h) (by rfl) ?_ hS4 ?_
  rotate_left
  · (intro W hSW; go_simp; try rfl)
  try simp only [Act.put, List.setIfInBounds_toArray, List.set_cons_zero, List.set_cons_succ]
  refine held_take 11 ?_ rfl (by kernel_rfl) (by kernel_rfl) (by kernel_rfl) (fun _ _ _ h => h) (by rfl) ?_ hS4 ?_
  rotate_left
  · (intro W hSW; go_simp; try rfl)
  try simp only [Act.put, List.setIfInBounds_toArray, List.set_cons_zero, List.set_cons_succ]
  refine held_take 13 ?_ rfl (by kernel_rfl) (by kernel_rfl) (by kernel_rfl) (fun _ _ _ h => h) (by rfl) ?_ hS4 ?_
  rotate_left
  · (intro W hSW; go_simp; try rfl)
  try simp only [Act.put, List.setIfInBounds_toArray, List.set_cons_zero, List.set_cons_succ]
  refine held_two 12 14 rfl rfl (by kernel_rfl) (by rfl) (by rfl) ?_ ?_
  · skip
    go_simp
    refine ⟨fun W => W.cell? ⟨b, 0, none⟩ = some (.slice (some ⟨g, 0, none⟩) n c), fun W hW => hW, hS4, ?_⟩
    try simp only [Act.put, List.setIfInBounds_toArray, List.set_cons_zero, List.set_cons_succ]
    refine held_next 14 rfl (by kernel_rfl) (by rfl) ?_
    go_simp
    refine (low_c x _ hx).mono ?_
    rintro e wq ⟨rfl, hz⟩
    have hz := hz.symm
    subst hz
    refine ⟨fun W => W.cell? ⟨b, 0, none⟩ = some (.slice (some ⟨g, 0, none⟩) n c), fun W hW => hW, hS4, ?_⟩
    try simp only [Act.put, List.setIfInBounds_toArray, List.set_cons_zero, List.set_cons_succ]
    refine held_next 15 rfl (by kernel_rfl) (by rfl) ?_
    go_simp
    refine (cwith_any (N := fun k => N k ∧ k ≠ g) _ (blk P (x / 65536)) _ (x % 65536) w3.drew T3.out (fun k hk => ⟨HN.out k (Nat.le_trans OFF.out.size hk), fun e => by have h1 : g < w3.heap.size := RG.out.lt; have h2 : w3.heap.size ≤ k := hk; omega⟩) (Nat.mod_lt _ (by omega)) (CN.out.step (Below.refl w3.heap.size w3).drew)).mono ?_
    rintro e w5 ⟨v5, rfl, cn, b5⟩
    have b5 : Below w3.heap.size w3 w5 := ⟨b5.os, b5.tape, b5.output, b5.size, b5.block⟩
    obtain ⟨κ5, A5, n5, c5, A6, n6, c6, A7, n7, c7, rfl⟩ := cn.form
    have hS5 : w5.cell? ⟨b, 0, none⟩ = some (.slice (some ⟨g, 0, none⟩) n c) := (b5.cell (p := ⟨b, 0, none⟩) RB.out.lt).trans hS4
    refine ⟨fun W => W.cell? ⟨b, 0, none⟩ = some (.slice (some ⟨g, 0, none⟩) n c), fun W hW => hW, hS5, ?_⟩
    try simp only [Act.put, List.setIfInBounds_toArray, List.set_cons_zero, List.set_cons_succ]
    refine held_take 16 ?_ rfl (by kernel_rfl) (by kernel_rfl) (by kernel_rfl) (fun _ _ _ h => h) (by rfl) ?_ hS5 ?_
    rotate_left
    · (intro W hSW; go_simp; try rfl)
    try simp only [Act.put, List.setIfInBounds_toArray, List.set_cons_zero, List.set_cons_succ]
    refine held_take 17 ?_ rfl (by kernel_rfl) (by kernel_rfl) (by kernel_rfl) (fun _ _ _ h => h) (by rfl) ?_ hS5 ?_
    rotate_left
    · (intro W hSW; go_simp; try rfl)
    try simp only [Act.put, List.setIfInBounds_toArray, List.set_cons_zero, List.set_cons_succ]
    have RG5 := Lib.hid (Row.below RG.out b5 RG.out.lt)
    have k0 : w5.cell? ⟨g, i * 5 + 1, none⟩ = some (.int .u8 bd.κ) := (RG5.out.cell (i * 5 + 1)).trans (CAT.out 1 (by omega))
    have k1 : w5.cell? ⟨g, i * 5 + 2, none⟩ = some (.slice bd.A bd.n bd.c) := (RG5.out.cell (i * 5 + 2)).trans (CAT.out 2 (by omega))
    have k2 : w5.cell? ⟨g, i * 5 + 3, none⟩ = some (.slice bd.A2 bd.n2 bd.c2) := (RG5.out.cell (i * 5 + 3)).trans (CAT.out 3 (by omega))
    have k3 : w5.cell? ⟨g, i * 5 + 4, none⟩ = some (.slice bd.A3 bd.n3 bd.c3) := (RG5.out.cell (i * 5 + 4)).trans (CAT.out 4 (by omega))
    have z0 := RG5.out.frozen (i * 5 + 1)
    have z1 := RG5.out.frozen (i * 5 + 2)
    have z2 := RG5.out.frozen (i * 5 + 3)
    have z3 := RG5.out.frozen (i * 5 + 4)
    have FIN := Lib.hid (add_fin (ei := ⟨kk, bd⟩) ⟨κ5, A5, n5, c5, A6, n6, c6, A7, n7, c7⟩ hx HS.out OFF.out b5 RB.out RG.out CS.out NC.out PI.out LEN.out CT.out PL.out MEM.out KEY.out HGM.out HBG.out cn)
    refine held_next 18 rfl (by kernel_rfl) (by rfl) ?_
    go_simp
    have hS6 : ((((w5.setCell ⟨g, i * 5 + 1, none⟩ (.int .u8 κ5)).setCell ⟨g, i * 5 + 2, none⟩ (.slice A5 n5 c5)).setCell ⟨g, i * 5 + 3, none⟩ (.slice A6 n6 c6)).setCell ⟨g, i * 5 + 4, none⟩ (.slice A7 n7 c7)).cell? ⟨b, 0, none⟩ = some (.slice (some ⟨g, 0, none⟩) n c) :=
      (cell_four b g i κ5 _ _ _ w5 HBG.out).trans hS5
    refine ⟨fun W => W.cell? ⟨b, 0, none⟩ = some (.slice (some ⟨g, 0, none⟩) n c), fun W hW => hW, hS6, ?_⟩
    refine wpAnyH_done (by kernel_rfl) ?_ _
    clear k0 k1 k2 k3 z0 z1 z2 z3 cn b5 hS5 hS6 RG5
    go_wp2
    go_end0
    exact FIN.out
  · skip
    go_simp
    refine (low_c x _ hx).mono ?_
    rintro e wq ⟨rfl, hz⟩
    have hz := hz.symm
    subst hz
    refine ⟨fun W => W.cell? ⟨b, 0, none⟩ = some (.slice (some ⟨g, 0, none⟩) n c), fun W hW => hW, hS4, ?_⟩
    try simp only [Act.put, List.setIfInBounds_toArray, List.set_cons_zero, List.set_cons_succ]
    refine held_next 12 rfl (by kernel_rfl) (by rfl) ?_
    go_simp
    refine ⟨fun W => W.cell? ⟨b, 0, none⟩ = some (.slice (some ⟨g, 0, none⟩) n c), fun W hW => hW, hS4, ?_⟩
    try simp only [Act.put, List.setIfInBounds_toArray, List.set_cons_zero, List.set_cons_succ]
    refine held_next 15 rfl (by kernel_rfl) (by rfl) ?_
    go_simp
    refine (cwith_any (N := fun k => N k ∧ k ≠ g) _ (blk P (x / 65536)) _ (x % 65536) w3.drew T3.out (fun k hk => ⟨HN.out k (Nat.le_trans OFF.out.size hk), fun e => by have h1 : g < w3.heap.size := RG.out.lt; have h2 : w3.heap.size ≤ k := hk; omega⟩) (Nat.mod_lt _ (by omega)) (CN.out.step (Below.refl w3.heap.size w3).drew)).mono ?_
    rintro e w5 ⟨v5, rfl, cn, b5⟩
    have b5 : Below w3.heap.size w3 w5 := ⟨b5.os, b5.tape, b5.output, b5.size, b5.block⟩
    obtain ⟨κ5, A5, n5, c5, A6, n6, c6, A7, n7, c7, rfl⟩ := cn.form
    have hS5 : w5.cell? ⟨b, 0, none⟩ = some (.slice (some ⟨g, 0, none⟩) n c) := (b5.cell (p := ⟨b, 0, none⟩) RB.out.lt).trans hS4
    refine ⟨fun W => W.cell? ⟨b, 0, none⟩ = some (.slice (some ⟨g, 0, none⟩) n c), fun W hW => hW, hS5, ?_⟩
    try simp only [Act.put, List.setIfInBounds_toArray, List.set_cons_zero, List.set_cons_succ]
    refine held_take 16 ?_ rfl (by kernel_rfl) (by kernel_rfl) (by kernel_rfl) (fun _ _ _ h => h) (by rfl) ?_ hS5 ?_
    rotate_left
    · (intro W hSW; go_simp; try rfl)
    try simp only [Act.put, List.setIfInBounds_toArray, List.set_cons_zero, List.set_cons_succ]
    refine held_take 17 ?_ rfl (by kernel_rfl) (by kernel_rfl) (by kernel_rfl) (fun _ _ _ h => h) (by rfl) ?_ hS5 ?_
    rotate_left
    · (intro W hSW; go_simp; try rfl)
    try simp only [Act.put, List.setIfInBounds_toArray, List.set_cons_zero, List.set_cons_succ]
    have RG5 := Lib.hid (Row.below RG.out b5 RG.out.lt)
    have k0 : w5.cell? ⟨g, i * 5 + 1, none⟩ = some (.int .u8 bd.κ) := (RG5.out.cell (i * 5 + 1)).trans (CAT.out 1 (by omega))
    have k1 : w5.cell? ⟨g, i * 5 + 2, none⟩ = some (.slice bd.A bd.n bd.c) := (RG5.out.cell (i * 5 + 2)).trans (CAT.out 2 (by omega))
    have k2 : w5.cell? ⟨g, i * 5 + 3, none⟩ = some (.slice bd.A2 bd.n2 bd.c2) := (RG5.out.cell (i * 5 + 3)).trans (CAT.out 3 (by omega))
    have k3 : w5.cell? ⟨g, i * 5 + 4, none⟩ = some (.slice bd.A3 bd.n3 bd.c3) := (RG5.out.cell (i * 5 + 4)).trans (CAT.out 4 (by omega))
    have z0 := RG5.out.frozen (i * 5 + 1)
    have z1 := RG5.out.frozen (i * 5 + 2)
    have z2 := RG5.out.frozen (i * 5 + 3)
    have z3 := RG5.out.frozen (i * 5 + 4)
    have FIN := Lib.hid (add_fin (ei := ⟨kk, bd⟩) ⟨κ5, A5, n5, c5, A6, n6, c6, A7, n7, c7⟩ hx HS.out OFF.out b5 RB.out RG.out CS.out NC.out PI.out LEN.out CT.out PL.out MEM.out KEY.out HGM.out HBG.out cn)
    refine held_next 18 rfl (by kernel_rfl) (by rfl) ?_
    go_simp
    have hS6 : ((((w5.setCell ⟨g, i * 5 + 1, none⟩ (.int .u8 κ5)).setCell ⟨g, i * 5 + 2, none⟩ (.slice A5 n5 c5)).setCell ⟨g, i * 5 + 3, none⟩ (.slice A6 n6 c6)).setCell ⟨g, i * 5 + 4, none⟩ (.slice A7 n7 c7)).cell? ⟨b, 0, none⟩ = some (.slice (some ⟨g, 0, none⟩) n c) :=
      (cell_four b g i κ5 _ _ _ w5 HBG.out).trans hS5
    refine ⟨fun W => W.cell? ⟨b, 0, none⟩ = some (.slice (some ⟨g, 0, none⟩) n c), fun W hW => hW, hS6, ?_⟩
    refine wpAnyH_done (by kernel_rfl) ?_ _
    clear k0 k1 k2 k3 z0 z1 z2 z3 cn b5 hS5 hS6 RG5
    go_wp2
    go_end0
    exact FIN.out
theorem off_row {w w' : World} {row : Option Nat} (h : w.grownBy w' row) : Off (fun k => row = some k) w w' :=
  ⟨h.os, h.tape, h.output, h.size, fun k hk hm => h.block k hk fun e => by first | exact hm e | exact hm e.symm⟩
theorem zero_cn {N : Nat → Prop} {w : World} {p : Nat → Bool} (h : ∀ x, x < 65536 → p x = false) : Cn N w zB.val p 1 := by
  have hc : ct p 65536 = 0 := ct_zero h
  have hl : ls p 65536 = [] := List.eq_nil_of_length_eq_zero (by rw [ls_ct, hc])
  exact .arr 0 none 0 0 (.inl rfl) hc ⟨by rw [hl]; exact Gs.nil_ _ _ _, fun h => absurd hl h⟩
set_option maxHeartbeats 16000000 in
set_option maxRecDepth 100000 in
theorem add_new {N : Nat → Prop} (v s : Value) (P : Nat → Bool) (b x : Nat) (es : List En) (w : World) (hTO : ∀ W, Off (fun k => k = b ∨ s.ownBlock = some k) w W → Tb W) (hN : ∀ k, w.heap.size ≤ k → N k) (S : Sx N w v P b 65536 s es) (hx : x < 4294967296) (hp : P x = false) (hz : nz P (x / 65536) = false) :
    Calls Tryz.prog 11 #[v, .int .u32 (x : Int)] w (AddAns N w v (pl P x) b s) := by
  have HS := Lib.hid S
  have HP := Lib.hid hp
  have HZ := Lib.hid hz
  have HN := Lib.hid hN
  have HTO := Lib.hid hTO
  obtain rfl := S.form
  clear S hp hz hN hTO
  go_enter Tryz.func11, Tryz.ntmps11
  go_wp2_with fail
  refine (sethas_c _ P x w HS.out.st hx).mono ?_
  rintro e u1 ⟨rfl, b1⟩
  rw [HP.out]
  have S1 := Lib.hid (HS.out.step b1)
  have B1 := Lib.hid b1
  clear b1
  go_wp2_with fail
  refine (high_c x _ hx).mono ?_
  rintro e wq ⟨rfl, hz⟩
  have hz := hz.symm
  subst hz
  go_wp2_with fail
  refine (find_c P b (x / 65536) s es u1 S1.out.box (S1.out.arr.sl.more (Nat.zero_le _) (Nat.le_refl _)) S1.out.dir (by omega)).mono ?_
  rintro e u2 ⟨i, rfl, F, b2⟩
  rw [HZ.out]
  have S2 := Lib.hid (S1.out.step b2)
  have B2 := Lib.hid (below_both B1.out b2)
  have HF := Lib.hid F
  clear b2 F S1 B1
  obtain ⟨A, n0, c0, rfl⟩ := S2.out.arr.slice
  obtain ⟨kk, hkk⟩ : ∃ kk, kk = UInt16.ofNat (x / 65536) := ⟨_, rfl⟩
  obtain ⟨bd, hbd⟩ : ∃ bd, bd = zB := ⟨_, rfl⟩
  have HBD := Lib.hid hbd
  have hkn : kk.toNat = x / 65536 := by rw [hkk]; exact u16_of _ (by omega)
  have KEY : Hid ((⟨kk, bd⟩ : En).key.toNat = x / 65536) := Lib.hid hkn
  have ONE : (#[Value.int .u16 ((x / 65536 : Nat) : Int), .int .u8 0, .slice none 0 0, .slice none 0 0, .slice none 0 0] : Array Value) = (eN.cs ⟨kk, bd⟩).toArray := by rw [hbd]; show _ = #[Value.int .u16 ((kk.toNat : Nat) : Int), .int .u8 0, .slice none 0 0, .slice none 0 0, .slice none 0 0]; rw [hkn]
  have HL : Hid (es.length ≤ 100000) := Lib.hid (by have := S2.out.dir.len; omega)
  have HNV : Hid ((Value.slice A n0 c0).ownBlock ≠ some u2.heap.size) := Lib.hid (fun h => by have := (S2.out.arr.lt _ h).2; omega)
  have PL := Lib.hid (pls_no HS.out.dir HF.out HZ.out)
  have HONE := Lib.hid ONE
  clear hkk hbd hkn ONE
  have c0' : u2.cell? ⟨b, 0, none⟩ = some (.slice A n0 c0) := S2.out.box.cell 0
  go_wp2_with fail
  refine wp_region_held_drew (S := fun W => u2.heap.size ≤ W.heap.size) (by kernel_rfl) (Nat.le_refl _) (fun _ => ?_)
  refine held_take 0 ?_ rfl (by kernel_rfl) (by kernel_rfl) (by kernel_rfl) (fun _ _ _ h => h) (by rfl) ?_ (Nat.le_refl _) ?_
  rotate_left
  · (intro W hSW; go_simp; try rfl)
  try simp only [Act.put, List.setIfInBounds_toArray, List.set_cons_zero, List.set_cons_succ]
  refine held_take 1 ?_ rfl (by kernel_rfl) (by kernel_rfl) (by kernel_rfl) (fun _ _ _ h => h) (by rfl) ?_ (Nat.le_refl _) ?_
  rotate_left
  · (intro W hSW; go_simp; try rfl)
  try simp only [Act.put, List.setIfInBounds_toArray, List.set_cons_zero, List.set_cons_succ]
  refine held_take 2 ?_ rfl (by kernel_rfl) (by kernel_rfl) (by kernel_rfl) (fun _ _ _ h => h) (by rfl) ?_ (Nat.le_refl _) ?_
  rotate_left
  · (intro W hSW; go_simp; try rfl)
  try simp only [Act.put, List.setIfInBounds_toArray, List.set_cons_zero, List.set_cons_succ]
  refine held_take 3 ?_ rfl (by kernel_rfl) (by kernel_rfl) (by kernel_rfl) (fun _ _ _ h => h) (by rfl) ?_ (Nat.le_refl _) ?_
  rotate_left
  · (intro W hSW; go_simp; try rfl)
  try simp only [Act.put, List.setIfInBounds_toArray, List.set_cons_zero, List.set_cons_succ]
  refine held_take 5 ?_ rfl (by kernel_rfl) (by kernel_rfl) (by kernel_rfl) (fun _ _ _ h => h) (by rfl) ?_ (Nat.le_refl _) ?_
  rotate_left
  · (intro W hSW; go_simp; try rfl)
  try simp only [Act.put, List.setIfInBounds_toArray, List.set_cons_zero, List.set_cons_succ]
  refine held_take 6 ?_ rfl (by kernel_rfl) (by kernel_rfl) (by kernel_rfl) (fun _ _ _ h => h) (by rfl) ?_ (Nat.le_refl _) ?_
  rotate_left
  · (intro W hSW; go_simp; try rfl)
  try simp only [Act.put, List.setIfInBounds_toArray, List.set_cons_zero, List.set_cons_succ]
  refine held_two 4 7 rfl rfl (by kernel_rfl) (by rfl) (by rfl) ?_ ?_
  · skip
    go_simp
    refine ⟨fun W => u2.heap.size ≤ W.heap.size, fun W hW => hW, (by simp), ?_⟩
    try simp only [Act.put, List.setIfInBounds_toArray, List.set_cons_zero, List.set_cons_succ]
    refine held_next 7 rfl (by kernel_rfl) (by rfl) ?_
    go_simp
    refine (high_c x _ hx).mono ?_
    rintro e wq ⟨rfl, hz⟩
    have hz := hz.symm
    subst hz
    refine ⟨fun W => u2.heap.size ≤ W.heap.size, fun W hW => hW, (Nat.le_refl _), ?_⟩
    try simp only [Act.put, List.setIfInBounds_toArray, List.set_cons_zero, List.set_cons_succ]
    refine held_take 8 ?_ rfl (by kernel_rfl) (by kernel_rfl) (by kernel_rfl) (fun _ _ _ h => h) (by rfl) ?_ (Nat.le_refl _) ?_
    rotate_left
    · (intro W hSW; go_simp; try rfl)
    try simp only [Act.put, List.setIfInBounds_toArray, List.set_cons_zero, List.set_cons_succ]
    refine held_next 9 rfl (by kernel_rfl) (by rfl) ?_
    go_simp
    refine ⟨fun W => u2.heap.size ≤ W.heap.size, fun W hW => hW, (by simp), ?_⟩
    try simp only [Act.put, List.setIfInBounds_toArray, List.set_cons_zero, List.set_cons_succ]
    refine held_next 10 rfl (by kernel_rfl) (by rfl) ?_
    go_simp
    have CI := insert_c 0 (.slice A n0 c0) es i u2.heap.size ⟨kk, bd⟩ (u2.drew.alloc (.cells (eN.cs ⟨kk, bd⟩).toArray eN.E)) (S2.out.arr.alloc _) HF.out.le HL.out (Row.new u2.drew _ _) HNV.out (Nat.zero_le _)
    rw [← HONE.out] at CI
    refine CI.mono ?_
    clear CI
    rintro r w2 ⟨s1, rfl, gi, gg, go⟩
    refine ⟨fun W => u2.heap.size ≤ W.heap.size, fun W hW => hW, Nat.le_trans (by simp) gg.size, ?_⟩
    try simp only [Act.put, List.setIfInBounds_toArray, List.set_cons_zero, List.set_cons_succ]
    rcases gi.2 with ⟨-, h0⟩ | ⟨g, c, cur, rfl, hgb, hgr, hgn, hgm, hgs, hgt⟩
    · simp at h0
    obtain ⟨n, hn⟩ : ∃ n, (es.take i ++ [(⟨kk, bd⟩ : En)] ++ es.drop i).length = n := ⟨_, rfl⟩
    rw [hn] at hgn hgt ⊢
    rw [HONE.out] at gg go
    have GI := Lib.hid gg
    have RB2 : Row w2 b 64 #[.slice A n0 c0] := Row.grown (Row.below (S2.out.box) ((Below.refl u2.heap.size u2).drew.alloc (Nat.le_refl _) (.cells (eN.cs ⟨kk, bd⟩).toArray eN.E)) S2.out.box.lt) gg (fun e => HS.out.nbs (by first | exact e | exact e.symm))
    have d0 : w2.cell? ⟨b, 0, none⟩ = some (.slice A n0 c0) := RB2.cell 0
    have f0 := RB2.frozen 0
    have hbg : b ≠ g := fun e => by
      rcases go with h | ⟨g', h, h2⟩
      · have h1 : (Value.slice A n0 c0).ownBlock = some g := h.symm.trans rfl
        exact HS.out.nbs (by rw [h1, e])
      · have h1 : some g = some g' := h
        injection h1 with h1
        have h3 := S2.out.box.lt
        simp at h2
        omega
    have HBG := Lib.hid hbg
    have HGM : Hid (w.heap.size ≤ g ∨ (Value.slice A n0 c0).ownBlock = some g) := Lib.hid (by
      rcases go with h | ⟨g', h, h2⟩
      · exact .inr (h.symm.trans rfl)
      · have h1 : some g = some g' := h
        injection h1 with h1
        simp at h2
        have := B2.out.size
        exact .inl (by omega))
    have QR := Lib.hid hgr
    have PI : Hid ((es.take i).length = i) := Lib.hid (by have := HF.out.le; rw [List.length_take]; omega)
    have LEN := Lib.hid hn
    have CT : Hid (cur.toList.take (n * 5) = eN.row (es.take i ++ [(⟨kk, bd⟩ : En)] ++ es.drop i)) := Lib.hid hgt
    have CS : Hid (cur.size = c * 5) := Lib.hid hgs
    have NC : Hid (n ≤ c ∧ c ≤ maxLen) := Lib.hid ⟨hgn, hgm⟩
    clear hgb hgr hgn hgm hgs hgt hn gi gg go hbg
    refine held_take 11 ?_ rfl (by kernel_rfl) (by kernel_rfl) (by kernel_rfl) (fun _ _ _ h => h) (by rfl) ?_ (Nat.le_trans (by simp) GI.out.size) ?_
    rotate_left
    · (intro W hSW; go_simp; try rfl)
    try simp only [Act.put, List.setIfInBounds_toArray, List.set_cons_zero, List.set_cons_succ]
    refine held_take 12 ?_ rfl (by kernel_rfl) (by kernel_rfl) (by kernel_rfl) (fun _ _ _ h => h) (by rfl) ?_ (Nat.le_trans (by simp) GI.out.size) ?_
    rotate_left
    · (intro W hSW; go_simp; try rfl)
    try simp only [Act.put, List.setIfInBounds_toArray, List.set_cons_zero, List.set_cons_succ]
    refine held_next 13 rfl (by kernel_rfl) (by rfl) ?_
    go_simp
    have G3 := grown_set w2 b 0 (.slice (some ⟨g, 0, none⟩) n c)
    have RB3 := RB2.one_set (.slice (some ⟨g, 0, none⟩) n c)
    have RG3 : Row (w2.setCell ⟨b, 0, none⟩ (.slice (some ⟨g, 0, none⟩) n c)) g eN.E cur := Row.grown (show Row w2 g eN.E cur from QR.out) G3 (fun e => by injection e with e; exact HBG.out e)
    have OF3 : Off (fun k => k = b ∨ (Value.slice A n0 c0).ownBlock = some k) w (w2.setCell ⟨b, 0, none⟩ (.slice (some ⟨g, 0, none⟩) n c)) :=
      ((Off.of (below_both B2.out ((Below.refl u2.heap.size u2).drew.alloc (Nat.le_refl _) (.cells (eN.cs ⟨kk, bd⟩).toArray eN.E)))).trans (off_row GI.out) (M'' := fun k => (Value.slice A n0 c0).ownBlock = some k) (fun y hy h => absurd h id) (fun y _ h => h)).trans (off_grown2 G3) (fun y _ h => .inr h) (fun y _ h => .inl h)
    refine ⟨fun W => u2.heap.size ≤ W.heap.size, fun W hW => hW, Nat.le_trans (Nat.le_trans (by simp) GI.out.size) G3.size, ?_⟩
    generalize w2.setCell ⟨b, 0, none⟩ (.slice (some ⟨g, 0, none⟩) n c) = w3 at *
    refine wpAnyH_done (by kernel_rfl) ?_ _
    have RG := Lib.hid RG3
    have RB := Lib.hid RB3
    have OFF := Lib.hid OF3
    have T3 := Lib.hid (HTO.out w3 OF3)
    have MEM : Hid (∀ e, e ∈ es.take i ∨ e ∈ es.drop i → e.key.toNat < 65536 ∧ nz P e.key.toNat = true ∧ Cn (fun k => N k ∧ k ≠ g) w3 e.b.val (blk P e.key.toNat) (ck (blk P e.key.toNat))) := Lib.hid (fun e he => by
      have hm : e ∈ es := he.elim (fun h => List.mem_of_mem_take h) (fun h => List.mem_of_mem_drop h)
      obtain ⟨-, a1, a2, a3⟩ := HS.out.dir.mem e hm
      exact ⟨a1, a2, add_keep HS.out OFF.out HGM.out a3⟩)
    have CN : Hid (Cn (fun k => N k ∧ k ≠ g) w3 bd.val (blk P (x / 65536)) 1) := Lib.hid (by
      rw [HBD.out]
      exact zero_cn fun y hy => nz_not.1 HZ.out y hy)
    generalize es.take i = pre at *
    generalize es.drop i = post at *
    clear RG3 RB3 OF3 G3 RB2 d0 f0 GI QR
    have hS4 : w3.cell? ⟨b, 0, none⟩ = some (.slice (some ⟨g, 0, none⟩) n c) := RB.out.cell 0
    have CAT : Hid (∀ t, t < 5 → cur[i * 5 + t]? = (eN.cs ⟨kk, bd⟩)[t]?) := Lib.hid (fun t ht => cur_at PI.out LEN.out CT.out t ht)
    have k0 : w3.cell? ⟨g, i * 5 + 1, none⟩ = some (.int .u8 bd.κ) := (RG.out.cell (i * 5 + 1)).trans (CAT.out 1 (by omega))
    have k1 : w3.cell? ⟨g, i * 5 + 2, none⟩ = some (.slice bd.A bd.n bd.c) := (RG.out.cell (i * 5 + 2)).trans (CAT.out 2 (by omega))
    have k2 : w3.cell? ⟨g, i * 5 + 3, none⟩ = some (.slice bd.A2 bd.n2 bd.c2) := (RG.out.cell (i * 5 + 3)).trans (CAT.out 3 (by omega))
    have k3 : w3.cell? ⟨g, i * 5 + 4, none⟩ = some (.slice bd.A3 bd.n3 bd.c3) := (RG.out.cell (i * 5 + 4)).trans (CAT.out 4 (by omega))
    have hin : (i : Int) < (n : Int) := by have h1 := LEN.out; have h2 := PI.out; simp at h1; omega
    go_wp2_with fail
    refine wp_region_held_drew (S := fun W => W.cell? ⟨b, 0, none⟩ = some (.slice (some ⟨g, 0, none⟩) n c)) (by kernel_rfl) hS4 (fun _ => ?_)
    refine held_take 0 ?_ rfl (by kernel_rfl) (by kernel_rfl) (by kernel_rfl) (fun _ _ _ h => h) (by rfl) ?_ hS4 ?_
    rotate_left
    · (intro W hSW; go_simp; try rfl)
    try simp only [Act.put, List.setIfInBounds_toArray, List.set_cons_zero, List.set_cons_succ]
    refine held_take 1 ?_ rfl (by kernel_rfl) (by kernel_rfl) (by kernel_rfl) (fun _ _ _ h => h) (by rfl) ?_ hS4 ?_
    rotate_left
    · (intro W hSW; go_simp; try rfl)
    try simp only [Act.put, List.setIfInBounds_toArray, List.set_cons_zero, List.set_cons_succ]
    refine held_take 2 ?_ rfl (by kernel_rfl) (by kernel_rfl) (by kernel_rfl) (fun _ _ _ h => h) (by rfl) ?_ hS4 ?_
    rotate_left
    · (intro W hSW; go_simp; try rfl)
    try simp only [Act.put, List.setIfInBounds_toArray, List.set_cons_zero, List.set_cons_succ]
    refine held_take 3 ?_ rfl (by kernel_rfl) (by kernel_rfl) (by kernel_rfl) (fun _ _ _ h => h) (by rfl) ?_ hS4 ?_
    rotate_left
    · (intro W hSW; have hc := hSW; go_simp; try rfl)
    try simp only [Act.put, List.setIfInBounds_toArray, List.set_cons_zero, List.set_cons_succ]
    refine held_take 4 ?_ rfl (by kernel_rfl) (by kernel_rfl) (by kernel_rfl) (fun _ _ _ h => h) (by rfl) ?_ hS4 ?_
    rotate_left
    · (intro W hSW; go_simp; try rfl)
    try simp only [Act.put, List.setIfInBounds_toArray, List.set_cons_zero, List.set_cons_succ]
    refine held_take 5 ?_ rfl (by kernel_rfl) (by kernel_rfl) (by kernel_rfl) (fun _ _ _ h => h) (by rfl) ?_ hS4 ?_
    rotate_left
    · (intro W hSW; go_simp; try rfl)
    try simp only [Act.put, List.setIfInBounds_toArray, List.set_cons_zero, List.set_cons_succ]
    refine held_take 6 ?_ rfl (by kernel_rfl) (by kernel_rfl) (by kernel_rfl) (fun _ _ _ h => h) (by rfl) ?_ hS4 ?_
    rotate_left
    · (intro W hSW; go_simp; try rfl)
    try simp only [Act.put, List.setIfInBounds_toArray, List.set_cons_zero, List.set_cons_succ]
    refine held_take 7 ?_ rfl (by kernel_rfl) (by kernel_rfl) (by kernel_rfl) (fun _ _ _ h => h) (by rfl) ?_ hS4 ?_
    rotate_left
    · (intro W hSW; go_simp; try rfl)
    try simp only [Act.put, List.setIfInBounds_toArray, List.set_cons_zero, List.set_cons_succ]
    refine held_take 8 ?_ rfl (by kernel_rfl) (by kernel_rfl) (by kernel_rfl) (fun _ _ _ h => h) (by rfl) ?_ hS4 ?_
    rotate_left
    · (intro W hSW; have hc := hSW; go_simp; try rfl)
    try simp only [Act.put, List.setIfInBounds_toArray, List.set_cons_zero, List.set_cons_succ]
    refine held_take 9 ?_ rfl (by kernel_rfl) (by kernel_rfl) (by kernel_rfl) (fun _ _ _ h => h) (by rfl) ?_ hS4 ?_
    rotate_left
    · (intro W hSW; go_simp; try rfl)
    try simp only [Act.put, List.setIfInBounds_toArray, List.set_cons_zero, List.set_cons_succ]
    refine held_take 10 ?_ rfl (by kernel_rfl) (by kernel_rfl) (by kernel_rfl) (fun _ _ _ h => h) (by rfl) ?_ hS4 ?_
    rotate_left
    · (intro W hSW; go_simp; try rfl)
    try simp only [Act.put, List.setIfInBounds_toArray, List.set_cons_zero, List.set_cons_succ]
    refine held_take 11 ?_ rfl (by kernel_rfl) (by kernel_rfl) (by kernel_rfl) (fun _ _ _ h => h) (by rfl) ?_ hS4 ?_
    rotate_left
    · (intro W hSW; go_simp; try rfl)
    try simp only [Act.put, List.setIfInBounds_toArray, List.set_cons_zero, List.set_cons_succ]
    refine held_take 13 ?_ rfl (by kernel_rfl) (by kernel_rfl) (by kernel_rfl) (fun _ _ _ h => h) (by rfl) ?_ hS4 ?_
    rotate_left
    · (intro W hSW; go_simp; try rfl)
    try simp only [Act.put, List.setIfInBounds_toArray, List.set_cons_zero, List.set_cons_succ]
    refine held_two 12 14 rfl rfl (by kernel_rfl) (by rfl) (by rfl) ?_ ?_
    · skip
      go_simp
      refine ⟨fun W => W.cell? ⟨b, 0, none⟩ = some (.slice (some ⟨g, 0, none⟩) n c), fun W hW => hW, hS4, ?_⟩
      try simp only [Act.put, List.setIfInBounds_toArray, List.set_cons_zero, List.set_cons_succ]
      refine held_next 14 rfl (by kernel_rfl) (by rfl) ?_
      go_simp
      refine (low_c x _ hx).mono ?_
      rintro e wq ⟨rfl, hz⟩
      have hz := hz.symm
      subst hz
      refine ⟨fun W => W.cell? ⟨b, 0, none⟩ = some (.slice (some ⟨g, 0, none⟩) n c), fun W hW => hW, hS4, ?_⟩
      try simp only [Act.put, List.setIfInBounds_toArray, List.set_cons_zero, List.set_cons_succ]
      refine held_next 15 rfl (by kernel_rfl) (by rfl) ?_
      go_simp
      refine (cwith_any (N := fun k => N k ∧ k ≠ g) _ (blk P (x / 65536)) _ (x % 65536) w3.drew T3.out (fun k hk => ⟨HN.out k (Nat.le_trans OFF.out.size hk), fun e => by have h1 : g < w3.heap.size := RG.out.lt; have h2 : w3.heap.size ≤ k := hk; omega⟩) (Nat.mod_lt _ (by omega)) (CN.out.step (Below.refl w3.heap.size w3).drew)).mono ?_
      rintro e w5 ⟨v5, rfl, cn, b5⟩
      have b5 : Below w3.heap.size w3 w5 := ⟨b5.os, b5.tape, b5.output, b5.size, b5.block⟩
      obtain ⟨κ5, A5, n5, c5, A6, n6, c6, A7, n7, c7, rfl⟩ := cn.form
      have hS5 : w5.cell? ⟨b, 0, none⟩ = some (.slice (some ⟨g, 0, none⟩) n c) := (b5.cell (p := ⟨b, 0, none⟩) RB.out.lt).trans hS4
      refine ⟨fun W => W.cell? ⟨b, 0, none⟩ = some (.slice (some ⟨g, 0, none⟩) n c), fun W hW => hW, hS5, ?_⟩
      try simp only [Act.put, List.setIfInBounds_toArray, List.set_cons_zero, List.set_cons_succ]
      refine held_take 16 ?_ rfl (by kernel_rfl) (by kernel_rfl) (by kernel_rfl) (fun _ _ _ h => h) (by rfl) ?_ hS5 ?_
      rotate_left
      · (intro W hSW; go_simp; try rfl)
      try simp only [Act.put, List.setIfInBounds_toArray, List.set_cons_zero, List.set_cons_succ]
      refine held_take 17 ?_ rfl (by kernel_rfl) (by kernel_rfl) (by kernel_rfl) (fun _ _ _ h => h) (by rfl) ?_ hS5 ?_
      rotate_left
      · (intro W hSW; go_simp; try rfl)
      try simp only [Act.put, List.setIfInBounds_toArray, List.set_cons_zero, List.set_cons_succ]
      have RG5 := Lib.hid (Row.below RG.out b5 RG.out.lt)
      have k0 : w5.cell? ⟨g, i * 5 + 1, none⟩ = some (.int .u8 bd.κ) := (RG5.out.cell (i * 5 + 1)).trans (CAT.out 1 (by omega))
      have k1 : w5.cell? ⟨g, i * 5 + 2, none⟩ = some (.slice bd.A bd.n bd.c) := (RG5.out.cell (i * 5 + 2)).trans (CAT.out 2 (by omega))
      have k2 : w5.cell? ⟨g, i * 5 + 3, none⟩ = some (.slice bd.A2 bd.n2 bd.c2) := (RG5.out.cell (i * 5 + 3)).trans (CAT.out 3 (by omega))
      have k3 : w5.cell? ⟨g, i * 5 + 4, none⟩ = some (.slice bd.A3 bd.n3 bd.c3) := (RG5.out.cell (i * 5 + 4)).trans (CAT.out 4 (by omega))
      have z0 := RG5.out.frozen (i * 5 + 1)
      have z1 := RG5.out.frozen (i * 5 + 2)
      have z2 := RG5.out.frozen (i * 5 + 3)
      have z3 := RG5.out.frozen (i * 5 + 4)
      have FIN := Lib.hid (add_fin (ei := ⟨kk, bd⟩) ⟨κ5, A5, n5, c5, A6, n6, c6, A7, n7, c7⟩ hx HS.out OFF.out b5 RB.out RG.out CS.out NC.out PI.out LEN.out CT.out PL.out MEM.out KEY.out HGM.out HBG.out cn)
      refine held_next 18 rfl (by kernel_rfl) (by rfl) ?_
      go_simp
      have hS6 : ((((w5.setCell ⟨g, i * 5 + 1, none⟩ (.int .u8 κ5)).setCell ⟨g, i * 5 + 2, none⟩ (.slice A5 n5 c5)).setCell ⟨g, i * 5 + 3, none⟩ (.slice A6 n6 c6)).setCell ⟨g, i * 5 + 4, none⟩ (.slice A7 n7 c7)).cell? ⟨b, 0, none⟩ = some (.slice (some ⟨g, 0, none⟩) n c) :=
        (cell_four b g i κ5 _ _ _ w5 HBG.out).trans hS5
      refine ⟨fun W => W.cell? ⟨b, 0, none⟩ = some (.slice (some ⟨g, 0, none⟩) n c), fun W hW => hW, hS6, ?_⟩
      refine wpAnyH_done (by kernel_rfl) ?_ _
      clear k0 k1 k2 k3 z0 z1 z2 z3 cn b5 hS5 hS6 RG5
      go_wp2
      go_end0
      exact FIN.out
    · skip
      go_simp
      refine (low_c x _ hx).mono ?_
      rintro e wq ⟨rfl, hz⟩
      have hz := hz.symm
      subst hz
      refine ⟨fun W => W.cell? ⟨b, 0, none⟩ = some (.slice (some ⟨g, 0, none⟩) n c), fun W hW => hW, hS4, ?_⟩
      try simp only [Act.put, List.setIfInBounds_toArray, List.set_cons_zero, List.set_cons_succ]
      refine held_next 12 rfl (by kernel_rfl) (by rfl) ?_
      go_simp
      refine ⟨fun W => W.cell? ⟨b, 0, none⟩ = some (.slice (some ⟨g, 0, none⟩) n c), fun W hW => hW, hS4, ?_⟩
      try simp only [Act.put, List.setIfInBounds_toArray, List.set_cons_zero, List.set_cons_succ]
      refine held_next 15 rfl (by kernel_rfl) (by rfl) ?_
      go_simp
      refine (cwith_any (N := fun k => N k ∧ k ≠ g) _ (blk P (x / 65536)) _ (x % 65536) w3.drew T3.out (fun k hk => ⟨HN.out k (Nat.le_trans OFF.out.size hk), fun e => by have h1 : g < w3.heap.size := RG.out.lt; have h2 : w3.heap.size ≤ k := hk; omega⟩) (Nat.mod_lt _ (by omega)) (CN.out.step (Below.refl w3.heap.size w3).drew)).mono ?_
      rintro e w5 ⟨v5, rfl, cn, b5⟩
      have b5 : Below w3.heap.size w3 w5 := ⟨b5.os, b5.tape, b5.output, b5.size, b5.block⟩
      obtain ⟨κ5, A5, n5, c5, A6, n6, c6, A7, n7, c7, rfl⟩ := cn.form
      have hS5 : w5.cell? ⟨b, 0, none⟩ = some (.slice (some ⟨g, 0, none⟩) n c) := (b5.cell (p := ⟨b, 0, none⟩) RB.out.lt).trans hS4
      refine ⟨fun W => W.cell? ⟨b, 0, none⟩ = some (.slice (some ⟨g, 0, none⟩) n c), fun W hW => hW, hS5, ?_⟩
      try simp only [Act.put, List.setIfInBounds_toArray, List.set_cons_zero, List.set_cons_succ]
      refine held_take 16 ?_ rfl (by kernel_rfl) (by kernel_rfl) (by kernel_rfl) (fun _ _ _ h => h) (by rfl) ?_ hS5 ?_
      rotate_left
      · (intro W hSW; go_simp; try rfl)
      try simp only [Act.put, List.setIfInBounds_toArray, List.set_cons_zero, List.set_cons_succ]
      refine held_take 17 ?_ rfl (by kernel_rfl) (by kernel_rfl) (by kernel_rfl) (fun _ _ _ h => h) (by rfl) ?_ hS5 ?_
      rotate_left
      · (intro W hSW; go_simp; try rfl)
      try simp only [Act.put, List.setIfInBounds_toArray, List.set_cons_zero, List.set_cons_succ]
      have RG5 := Lib.hid (Row.below RG.out b5 RG.out.lt)
      have k0 : w5.cell? ⟨g, i * 5 + 1, none⟩ = some (.int .u8 bd.κ) := (RG5.out.cell (i * 5 + 1)).trans (CAT.out 1 (by omega))
      have k1 : w5.cell? ⟨g, i * 5 + 2, none⟩ = some (.slice bd.A bd.n bd.c) := (RG5.out.cell (i * 5 + 2)).trans (CAT.out 2 (by omega))
      have k2 : w5.cell? ⟨g, i * 5 + 3, none⟩ = some (.slice bd.A2 bd.n2 bd.c2) := (RG5.out.cell (i * 5 + 3)).trans (CAT.out 3 (by omega))
      have k3 : w5.cell? ⟨g, i * 5 + 4, none⟩ = some (.slice bd.A3 bd.n3 bd.c3) := (RG5.out.cell (i * 5 + 4)).trans (CAT.out 4 (by omega))
      have z0 := RG5.out.frozen (i * 5 + 1)
      have z1 := RG5.out.frozen (i * 5 + 2)
      have z2 := RG5.out.frozen (i * 5 + 3)
      have z3 := RG5.out.frozen (i * 5 + 4)
      have FIN := Lib.hid (add_fin (ei := ⟨kk, bd⟩) ⟨κ5, A5, n5, c5, A6, n6, c6, A7, n7, c7⟩ hx HS.out OFF.out b5 RB.out RG.out CS.out NC.out PI.out LEN.out CT.out PL.out MEM.out KEY.out HGM.out HBG.out cn)
      refine held_next 18 rfl (by kernel_rfl) (by rfl) ?_
      go_simp
      have hS6 : ((((w5.setCell ⟨g, i * 5 + 1, none⟩ (.int .u8 κ5)).setCell ⟨g, i * 5 + 2, none⟩ (.slice A5 n5 c5)).setCell ⟨g, i * 5 + 3, none⟩ (.slice A6 n6 c6)).setCell ⟨g, i * 5 + 4, none⟩ (.slice A7 n7 c7)).cell? ⟨b, 0, none⟩ = some (.slice (some ⟨g, 0, none⟩) n c) :=
        (cell_four b g i κ5 _ _ _ w5 HBG.out).trans hS5
      refine ⟨fun W => W.cell? ⟨b, 0, none⟩ = some (.slice (some ⟨g, 0, none⟩) n c), fun W hW => hW, hS6, ?_⟩
      refine wpAnyH_done (by kernel_rfl) ?_ _
      clear k0 k1 k2 k3 z0 z1 z2 z3 cn b5 hS5 hS6 RG5
      go_wp2
      go_end0
      exact FIN.out
  · skip
    go_simp
    refine (high_c x _ hx).mono ?_
    rintro e wq ⟨rfl, hz⟩
    have hz := hz.symm
    subst hz
    refine ⟨fun W => u2.heap.size ≤ W.heap.size, fun W hW => hW, (Nat.le_refl _), ?_⟩
    try simp only [Act.put, List.setIfInBounds_toArray, List.set_cons_zero, List.set_cons_succ]
    refine held_take 8 ?_ rfl (by kernel_rfl) (by kernel_rfl) (by kernel_rfl) (fun _ _ _ h => h) (by rfl) ?_ (Nat.le_refl _) ?_
    rotate_left
    · (intro W hSW; go_simp; try rfl)
    try simp only [Act.put, List.setIfInBounds_toArray, List.set_cons_zero, List.set_cons_succ]
    refine held_two 4 9 rfl rfl (by kernel_rfl) (by rfl) (by rfl) ?_ ?_
    · skip
      go_simp
      refine ⟨fun W => u2.heap.size ≤ W.heap.size, fun W hW => hW, (by simp), ?_⟩
      try simp only [Act.put, List.setIfInBounds_toArray, List.set_cons_zero, List.set_cons_succ]
      refine held_next 9 rfl (by kernel_rfl) (by rfl) ?_
      go_simp
      refine ⟨fun W => u2.heap.size ≤ W.heap.size, fun W hW => hW, (by simp), ?_⟩
      try simp only [Act.put, List.setIfInBounds_toArray, List.set_cons_zero, List.set_cons_succ]
      refine held_next 10 rfl (by kernel_rfl) (by rfl) ?_
      go_simp
      have CI := insert_c 0 (.slice A n0 c0) es i u2.heap.size ⟨kk, bd⟩ (u2.drew.alloc (.cells (eN.cs ⟨kk, bd⟩).toArray eN.E)) (S2.out.arr.alloc _) HF.out.le HL.out (Row.new u2.drew _ _) HNV.out (Nat.zero_le _)
      rw [← HONE.out] at CI
      refine CI.mono ?_
      clear CI
      rintro r w2 ⟨s1, rfl, gi, gg, go⟩
      refine ⟨fun W => u2.heap.size ≤ W.heap.size, fun W hW => hW, Nat.le_trans (by simp) gg.size, ?_⟩
      try simp only [Act.put, List.setIfInBounds_toArray, List.set_cons_zero, List.set_cons_succ]
      rcases gi.2 with ⟨-, h0⟩ | ⟨g, c, cur, rfl, hgb, hgr, hgn, hgm, hgs, hgt⟩
      · simp at h0
      obtain ⟨n, hn⟩ : ∃ n, (es.take i ++ [(⟨kk, bd⟩ : En)] ++ es.drop i).length = n := ⟨_, rfl⟩
      rw [hn] at hgn hgt ⊢
      rw [HONE.out] at gg go
      have GI := Lib.hid gg
      have RB2 : Row w2 b 64 #[.slice A n0 c0] := Row.grown (Row.below (S2.out.box) ((Below.refl u2.heap.size u2).drew.alloc (Nat.le_refl _) (.cells (eN.cs ⟨kk, bd⟩).toArray eN.E)) S2.out.box.lt) gg (fun e => HS.out.nbs (by first | exact e | exact e.symm))
      have d0 : w2.cell? ⟨b, 0, none⟩ = some (.slice A n0 c0) := RB2.cell 0
      have f0 := RB2.frozen 0
      have hbg : b ≠ g := fun e => by
        rcases go with h | ⟨g', h, h2⟩
        · have h1 : (Value.slice A n0 c0).ownBlock = some g := h.symm.trans rfl
          exact HS.out.nbs (by rw [h1, e])
        · have h1 : some g = some g' := h
          injection h1 with h1
          have h3 := S2.out.box.lt
          simp at h2
          omega
      have HBG := Lib.hid hbg
      have HGM : Hid (w.heap.size ≤ g ∨ (Value.slice A n0 c0).ownBlock = some g) := Lib.hid (by
        rcases go with h | ⟨g', h, h2⟩
        · exact .inr (h.symm.trans rfl)
        · have h1 : some g = some g' := h
          injection h1 with h1
          simp at h2
          have := B2.out.size
          exact .inl (by omega))
      have QR := Lib.hid hgr
      have PI : Hid ((es.take i).length = i) := Lib.hid (by have := HF.out.le; rw [List.length_take]; omega)
      have LEN := Lib.hid hn
      have CT : Hid (cur.toList.take (n * 5) = eN.row (es.take i ++ [(⟨kk, bd⟩ : En)] ++ es.drop i)) := Lib.hid hgt
      have CS : Hid (cur.size = c * 5) := Lib.hid hgs
      have NC : Hid (n ≤ c ∧ c ≤ maxLen) := Lib.hid ⟨hgn, hgm⟩
      clear hgb hgr hgn hgm hgs hgt hn gi gg go hbg
      refine held_take 11 ?_ rfl (by kernel_rfl) (by kernel_rfl) (by kernel_rfl) (fun _ _ _ h => h) (by rfl) ?_ (Nat.le_trans (by simp) GI.out.size) ?_
      rotate_left
      · (intro W hSW; go_simp; try rfl)
      try simp only [Act.put, List.setIfInBounds_toArray, List.set_cons_zero, List.set_cons_succ]
      refine held_take 12 ?_ rfl (by kernel_rfl) (by kernel_rfl) (by kernel_rfl) (fun _ _ _ h => h) (by rfl) ?_ (Nat.le_trans (by simp) GI.out.size) ?_
      rotate_left
      · (intro W hSW; go_simp; try rfl)
      try simp only [Act.put, List.setIfInBounds_toArray, List.set_cons_zero, List.set_cons_succ]
      refine held_next 13 rfl (by kernel_rfl) (by rfl) ?_
      go_simp
      have G3 := grown_set w2 b 0 (.slice (some ⟨g, 0, none⟩) n c)
      have RB3 := RB2.one_set (.slice (some ⟨g, 0, none⟩) n c)
      have RG3 : Row (w2.setCell ⟨b, 0, none⟩ (.slice (some ⟨g, 0, none⟩) n c)) g eN.E cur := Row.grown (show Row w2 g eN.E cur from QR.out) G3 (fun e => by injection e with e; exact HBG.out e)
      have OF3 : Off (fun k => k = b ∨ (Value.slice A n0 c0).ownBlock = some k) w (w2.setCell ⟨b, 0, none⟩ (.slice (some ⟨g, 0, none⟩) n c)) :=
        ((Off.of (below_both B2.out ((Below.refl u2.heap.size u2).drew.alloc (Nat.le_refl _) (.cells (eN.cs ⟨kk, bd⟩).toArray eN.E)))).trans (off_row GI.out) (M'' := fun k => (Value.slice A n0 c0).ownBlock = some k) (fun y hy h => absurd h id) (fun y _ h => h)).trans (off_grown2 G3) (fun y _ h => .inr h) (fun y _ h => .inl h)
      refine ⟨fun W => u2.heap.size ≤ W.heap.size, fun W hW => hW, Nat.le_trans (Nat.le_trans (by simp) GI.out.size) G3.size, ?_⟩
      generalize w2.setCell ⟨b, 0, none⟩ (.slice (some ⟨g, 0, none⟩) n c) = w3 at *
      refine wpAnyH_done (by kernel_rfl) ?_ _
      have RG := Lib.hid RG3
      have RB := Lib.hid RB3
      have OFF := Lib.hid OF3
      have T3 := Lib.hid (HTO.out w3 OF3)
      have MEM : Hid (∀ e, e ∈ es.take i ∨ e ∈ es.drop i → e.key.toNat < 65536 ∧ nz P e.key.toNat = true ∧ Cn (fun k => N k ∧ k ≠ g) w3 e.b.val (blk P e.key.toNat) (ck (blk P e.key.toNat))) := Lib.hid (fun e he => by
        have hm : e ∈ es := he.elim (fun h => List.mem_of_mem_take h) (fun h => List.mem_of_mem_drop h)
        obtain ⟨-, a1, a2, a3⟩ := HS.out.dir.mem e hm
        exact ⟨a1, a2, add_keep HS.out OFF.out HGM.out a3⟩)
      have CN : Hid (Cn (fun k => N k ∧ k ≠ g) w3 bd.val (blk P (x / 65536)) 1) := Lib.hid (by
        rw [HBD.out]
        exact zero_cn fun y hy => nz_not.1 HZ.out y hy)
      generalize es.take i = pre at *
      generalize es.drop i = post at *
      clear RG3 RB3 OF3 G3 RB2 d0 f0 GI QR
      have hS4 : w3.cell? ⟨b, 0, none⟩ = some (.slice (some ⟨g, 0, none⟩) n c) := RB.out.cell 0
      have CAT : Hid (∀ t, t < 5 → cur[i * 5 + t]? = (eN.cs ⟨kk, bd⟩)[t]?) := Lib.hid (fun t ht => cur_at PI.out LEN.out CT.out t ht)
      have k0 : w3.cell? ⟨g, i * 5 + 1, none⟩ = some (.int .u8 bd.κ) := (RG.out.cell (i * 5 + 1)).trans (CAT.out 1 (by omega))
      have k1 : w3.cell? ⟨g, i * 5 + 2, none⟩ = some (.slice bd.A bd.n bd.c) := (RG.out.cell (i * 5 + 2)).trans (CAT.out 2 (by omega))
      have k2 : w3.cell? ⟨g, i * 5 + 3, none⟩ = some (.slice bd.A2 bd.n2 bd.c2) := (RG.out.cell (i * 5 + 3)).trans (CAT.out 3 (by omega))
      have k3 : w3.cell? ⟨g, i * 5 + 4, none⟩ = some (.slice bd.A3 bd.n3 bd.c3) := (RG.out.cell (i * 5 + 4)).trans (CAT.out 4 (by omega))
      have hin : (i : Int) < (n : Int) := by have h1 := LEN.out; have h2 := PI.out; simp at h1; omega
      go_wp2_with fail
      refine wp_region_held_drew (S := fun W => W.cell? ⟨b, 0, none⟩ = some (.slice (some ⟨g, 0, none⟩) n c)) (by kernel_rfl) hS4 (fun _ => ?_)
      refine held_take 0 ?_ rfl (by kernel_rfl) (by kernel_rfl) (by kernel_rfl) (fun _ _ _ h => h) (by rfl) ?_ hS4 ?_
      rotate_left
      · (intro W hSW; go_simp; try rfl)
      try simp only [Act.put, List.setIfInBounds_toArray, List.set_cons_zero, List.set_cons_succ]
      refine held_take 1 ?_ rfl (by kernel_rfl) (by kernel_rfl) (by kernel_rfl) (fun _ _ _ h => h) (by rfl) ?_ hS4 ?_
      rotate_left
      · (intro W hSW; go_simp; try rfl)
      try simp only [Act.put, List.setIfInBounds_toArray, List.set_cons_zero, List.set_cons_succ]
      refine held_take 2 ?_ rfl (by kernel_rfl) (by kernel_rfl) (by kernel_rfl) (fun _ _ _ h => h) (by rfl) ?_ hS4 ?_
      rotate_left
      · (intro W hSW; go_simp; try rfl)
      try simp only [Act.put, List.setIfInBounds_toArray, List.set_cons_zero, List.set_cons_succ]
      refine held_take 3 ?_ rfl (by kernel_rfl) (by kernel_rfl) (by kernel_rfl) (fun _ _ _ h => h) (by rfl) ?_ hS4 ?_
      rotate_left
      · (intro W hSW; have hc := hSW; go_simp; try rfl)
      try simp only [Act.put, List.setIfInBounds_toArray, List.set_cons_zero, List.set_cons_succ]
      refine held_take 4 ?_ rfl (by kernel_rfl) (by kernel_rfl) (by kernel_rfl) (fun _ _ _ h => h) (by rfl) ?_ hS4 ?_
      rotate_left
      · (intro W hSW; go_simp; try rfl)
      try simp only [Act.put, List.setIfInBounds_toArray, List.set_cons_zero, List.set_cons_succ]
      refine held_take 5 ?_ rfl (by kernel_rfl) (by kernel_rfl) (by kernel_rfl) (fun _ _ _ h => h) (by rfl) ?_ hS4 ?_
      rotate_left
      · (intro W hSW; go_simp; try rfl)
      try simp only [Act.put, List.setIfInBounds_toArray, List.set_cons_zero, List.set_cons_succ]
      refine held_take 6 ?_ rfl (by kernel_rfl) (by kernel_rfl) (by kernel_rfl) (fun _ _ _ h => h) (by rfl) ?_ hS4 ?_
      rotate_left
      · (intro W hSW; go_simp; try rfl)
      try simp only [Act.put, List.setIfInBounds_toArray, List.set_cons_zero, List.set_cons_succ]
      refine held_take 7 ?_ rfl (by kernel_rfl) (by kernel_rfl) (by kernel_rfl) (fun _ _ _ h => h) (by rfl) ?_ hS4 ?_
      rotate_left
      · (intro W hSW; go_simp; try rfl)
      try simp only [Act.put, List.setIfInBounds_toArray, List.set_cons_zero, List.set_cons_succ]
      refine held_take 8 ?_ rfl (by kernel_rfl) (by kernel_rfl) (by kernel_rfl) (fun _ _ _ h => h) (by rfl) ?_ hS4 ?_
      rotate_left
      · (intro W hSW; have hc := hSW; go_simp; try rfl)
      try simp only [Act.put, List.setIfInBounds_toArray, List.set_cons_zero, List.set_cons_succ]
      refine held_take 9 ?_ rfl (by kernel_rfl) (by kernel_rfl) (by kernel_rfl) (fun _ _ _ h => h) (by rfl) ?_ hS4 ?_
      rotate_left
      · (intro W hSW; go_simp; try rfl)
      try simp only [Act.put, List.setIfInBounds_toArray, List.set_cons_zero, List.set_cons_succ]
      refine held_take 10 ?_ rfl (by kernel_rfl) (by kernel_rfl) (by kernel_rfl) (fun _ _ _ h => h) (by rfl) ?_ hS4 ?_
      rotate_left
      · (intro W hSW; go_simp; try rfl)
      try simp only [Act.put, List.setIfInBounds_toArray, List.set_cons_zero, List.set_cons_succ]
      refine held_take 11 ?_ rfl (by kernel_rfl) (by kernel_rfl) (by kernel_rfl) (fun _ _ _ h => h) (by rfl) ?_ hS4 ?_
      rotate_left
      · (intro W hSW; go_simp; try rfl)
      try simp only [Act.put, List.setIfInBounds_toArray, List.set_cons_zero, List.set_cons_succ]
      refine held_take 13 ?_ rfl (by kernel_rfl) (by kernel_rfl) (by kernel_rfl) (fun _ _ _ h => h) (by rfl) ?_ hS4 ?_
      rotate_left
      · (intro W hSW; go_simp; try rfl)
      try simp only [Act.put, List.setIfInBounds_toArray, List.set_cons_zero, List.set_cons_succ]
      refine held_two 12 14 rfl rfl (by kernel_rfl) (by rfl) (by rfl) ?_ ?_
      · skip
        go_simp
        refine ⟨fun W => W.cell? ⟨b, 0, none⟩ = some (.slice (some ⟨g, 0, none⟩) n c), fun W hW => hW, hS4, ?_⟩
        try simp only [Act.put, List.setIfInBounds_toArray, List.set_cons_zero, List.set_cons_succ]
        refine held_next 14 rfl (by kernel_rfl) (by rfl) ?_
        go_simp
        refine (low_c x _ hx).mono ?_
        rintro e wq ⟨rfl, hz⟩
        have hz := hz.symm
        subst hz
        refine ⟨fun W => W.cell? ⟨b, 0, none⟩ = some (.slice (some ⟨g, 0, none⟩) n c), fun W hW => hW, hS4, ?_⟩
        try simp only [Act.put, List.setIfInBounds_toArray, List.set_cons_zero, List.set_cons_succ]
        refine held_next 15 rfl (by kernel_rfl) (by rfl) ?_
        go_simp
        refine (cwith_any (N := fun k => N k ∧ k ≠ g) _ (blk P (x / 65536)) _ (x % 65536) w3.drew T3.out (fun k hk => ⟨HN.out k (Nat.le_trans OFF.out.size hk), fun e => by have h1 : g < w3.heap.size := RG.out.lt; have h2 : w3.heap.size ≤ k := hk; omega⟩) (Nat.mod_lt _ (by omega)) (CN.out.step (Below.refl w3.heap.size w3).drew)).mono ?_
        rintro e w5 ⟨v5, rfl, cn, b5⟩
        have b5 : Below w3.heap.size w3 w5 := ⟨b5.os, b5.tape, b5.output, b5.size, b5.block⟩
        obtain ⟨κ5, A5, n5, c5, A6, n6, c6, A7, n7, c7, rfl⟩ := cn.form
        have hS5 : w5.cell? ⟨b, 0, none⟩ = some (.slice (some ⟨g, 0, none⟩) n c) := (b5.cell (p := ⟨b, 0, none⟩) RB.out.lt).trans hS4
        refine ⟨fun W => W.cell? ⟨b, 0, none⟩ = some (.slice (some ⟨g, 0, none⟩) n c), fun W hW => hW, hS5, ?_⟩
        try simp only [Act.put, List.setIfInBounds_toArray, List.set_cons_zero, List.set_cons_succ]
        refine held_take 16 ?_ rfl (by kernel_rfl) (by kernel_rfl) (by kernel_rfl) (fun _ _ _ h => h) (by rfl) ?_ hS5 ?_
        rotate_left
        · (intro W hSW; go_simp; try rfl)
        try simp only [Act.put, List.setIfInBounds_toArray, List.set_cons_zero, List.set_cons_succ]
        refine held_take 17 ?_ rfl (by kernel_rfl) (by kernel_rfl) (by kernel_rfl) (fun _ _ _ h => h) (by rfl) ?_ hS5 ?_
        rotate_left
        · (intro W hSW; go_simp; try rfl)
        try simp only [Act.put, List.setIfInBounds_toArray, List.set_cons_zero, List.set_cons_succ]
        have RG5 := Lib.hid (Row.below RG.out b5 RG.out.lt)
        have k0 : w5.cell? ⟨g, i * 5 + 1, none⟩ = some (.int .u8 bd.κ) := (RG5.out.cell (i * 5 + 1)).trans (CAT.out 1 (by omega))
        have k1 : w5.cell? ⟨g, i * 5 + 2, none⟩ = some (.slice bd.A bd.n bd.c) := (RG5.out.cell (i * 5 + 2)).trans (CAT.out 2 (by omega))
        have k2 : w5.cell? ⟨g, i * 5 + 3, none⟩ = some (.slice bd.A2 bd.n2 bd.c2) := (RG5.out.cell (i * 5 + 3)).trans (CAT.out 3 (by omega))
        have k3 : w5.cell? ⟨g, i * 5 + 4, none⟩ = some (.slice bd.A3 bd.n3 bd.c3) := (RG5.out.cell (i * 5 + 4)).trans (CAT.out 4 (by omega))
        have z0 := RG5.out.frozen (i * 5 + 1)
        have z1 := RG5.out.frozen (i * 5 + 2)
        have z2 := RG5.out.frozen (i * 5 + 3)
        have z3 := RG5.out.frozen (i * 5 + 4)
        have FIN := Lib.hid (add_fin (ei := ⟨kk, bd⟩) ⟨κ5, A5, n5, c5, A6, n6, c6, A7, n7, c7⟩ hx HS.out OFF.out b5 RB.out RG.out CS.out NC.out PI.out LEN.out CT.out PL.out MEM.out KEY.out HGM.out HBG.out cn)
        refine held_next 18 rfl (by kernel_rfl) (by rfl) ?_
        go_simp
        have hS6 : ((((w5.setCell ⟨g, i * 5 + 1, none⟩ (.int .u8 κ5)).setCell ⟨g, i * 5 + 2, none⟩ (.slice A5 n5 c5)).setCell ⟨g, i * 5 + 3, none⟩ (.slice A6 n6 c6)).setCell ⟨g, i * 5 + 4, none⟩ (.slice A7 n7 c7)).cell? ⟨b, 0, none⟩ = some (.slice (some ⟨g, 0, none⟩) n c) :=
          (cell_four b g i κ5 _ _ _ w5 HBG.out).trans hS5
        refine ⟨fun W => W.cell? ⟨b, 0, none⟩ = some (.slice (some ⟨g, 0, none⟩) n c), fun W hW => hW, hS6, ?_⟩
        refine wpAnyH_done (by kernel_rfl) ?_ _
        clear k0 k1 k2 k3 z0 z1 z2 z3 cn b5 hS5 hS6 RG5
        go_wp2
        go_end0
        exact FIN.out
      · skip
        go_simp
        refine (low_c x _ hx).mono ?_
        rintro e wq ⟨rfl, hz⟩
        have hz := hz.symm
        subst hz
        refine ⟨fun W => W.cell? ⟨b, 0, none⟩ = some (.slice (some ⟨g, 0, none⟩) n c), fun W hW => hW, hS4, ?_⟩
        try simp only [Act.put, List.setIfInBounds_toArray, List.set_cons_zero, List.set_cons_succ]
        refine held_next 12 rfl (by kernel_rfl) (by rfl) ?_
        go_simp
        refine ⟨fun W => W.cell? ⟨b, 0, none⟩ = some (.slice (some ⟨g, 0, none⟩) n c), fun W hW => hW, hS4, ?_⟩
        try simp only [Act.put, List.setIfInBounds_toArray, List.set_cons_zero, List.set_cons_succ]
        refine held_next 15 rfl (by kernel_rfl) (by rfl) ?_
        go_simp
        refine (cwith_any (N := fun k => N k ∧ k ≠ g) _ (blk P (x / 65536)) _ (x % 65536) w3.drew T3.out (fun k hk => ⟨HN.out k (Nat.le_trans OFF.out.size hk), fun e => by have h1 : g < w3.heap.size := RG.out.lt; have h2 : w3.heap.size ≤ k := hk; omega⟩) (Nat.mod_lt _ (by omega)) (CN.out.step (Below.refl w3.heap.size w3).drew)).mono ?_
        rintro e w5 ⟨v5, rfl, cn, b5⟩
        have b5 : Below w3.heap.size w3 w5 := ⟨b5.os, b5.tape, b5.output, b5.size, b5.block⟩
        obtain ⟨κ5, A5, n5, c5, A6, n6, c6, A7, n7, c7, rfl⟩ := cn.form
        have hS5 : w5.cell? ⟨b, 0, none⟩ = some (.slice (some ⟨g, 0, none⟩) n c) := (b5.cell (p := ⟨b, 0, none⟩) RB.out.lt).trans hS4
        refine ⟨fun W => W.cell? ⟨b, 0, none⟩ = some (.slice (some ⟨g, 0, none⟩) n c), fun W hW => hW, hS5, ?_⟩
        try simp only [Act.put, List.setIfInBounds_toArray, List.set_cons_zero, List.set_cons_succ]
        refine held_take 16 ?_ rfl (by kernel_rfl) (by kernel_rfl) (by kernel_rfl) (fun _ _ _ h => h) (by rfl) ?_ hS5 ?_
        rotate_left
        · (intro W hSW; go_simp; try rfl)
        try simp only [Act.put, List.setIfInBounds_toArray, List.set_cons_zero, List.set_cons_succ]
        refine held_take 17 ?_ rfl (by kernel_rfl) (by kernel_rfl) (by kernel_rfl) (fun _ _ _ h => h) (by rfl) ?_ hS5 ?_
        rotate_left
        · (intro W hSW; go_simp; try rfl)
        try simp only [Act.put, List.setIfInBounds_toArray, List.set_cons_zero, List.set_cons_succ]
        have RG5 := Lib.hid (Row.below RG.out b5 RG.out.lt)
        have k0 : w5.cell? ⟨g, i * 5 + 1, none⟩ = some (.int .u8 bd.κ) := (RG5.out.cell (i * 5 + 1)).trans (CAT.out 1 (by omega))
        have k1 : w5.cell? ⟨g, i * 5 + 2, none⟩ = some (.slice bd.A bd.n bd.c) := (RG5.out.cell (i * 5 + 2)).trans (CAT.out 2 (by omega))
        have k2 : w5.cell? ⟨g, i * 5 + 3, none⟩ = some (.slice bd.A2 bd.n2 bd.c2) := (RG5.out.cell (i * 5 + 3)).trans (CAT.out 3 (by omega))
        have k3 : w5.cell? ⟨g, i * 5 + 4, none⟩ = some (.slice bd.A3 bd.n3 bd.c3) := (RG5.out.cell (i * 5 + 4)).trans (CAT.out 4 (by omega))
        have z0 := RG5.out.frozen (i * 5 + 1)
        have z1 := RG5.out.frozen (i * 5 + 2)
        have z2 := RG5.out.frozen (i * 5 + 3)
        have z3 := RG5.out.frozen (i * 5 + 4)
        have FIN := Lib.hid (add_fin (ei := ⟨kk, bd⟩) ⟨κ5, A5, n5, c5, A6, n6, c6, A7, n7, c7⟩ hx HS.out OFF.out b5 RB.out RG.out CS.out NC.out PI.out LEN.out CT.out PL.out MEM.out KEY.out HGM.out HBG.out cn)
        refine held_next 18 rfl (by kernel_rfl) (by rfl) ?_
        go_simp
        have hS6 : ((((w5.setCell ⟨g, i * 5 + 1, none⟩ (.int .u8 κ5)).setCell ⟨g, i * 5 + 2, none⟩ (.slice A5 n5 c5)).setCell ⟨g, i * 5 + 3, none⟩ (.slice A6 n6 c6)).setCell ⟨g, i * 5 + 4, none⟩ (.slice A7 n7 c7)).cell? ⟨b, 0, none⟩ = some (.slice (some ⟨g, 0, none⟩) n c) :=
          (cell_four b g i κ5 _ _ _ w5 HBG.out).trans hS5
        refine ⟨fun W => W.cell? ⟨b, 0, none⟩ = some (.slice (some ⟨g, 0, none⟩) n c), fun W hW => hW, hS6, ?_⟩
        refine wpAnyH_done (by kernel_rfl) ?_ _
        clear k0 k1 k2 k3 z0 z1 z2 z3 cn b5 hS5 hS6 RG5
        go_wp2
        go_end0
        exact FIN.out
    · skip
      go_simp
      refine ⟨fun W => u2.heap.size ≤ W.heap.size, fun W hW => hW, (by simp), ?_⟩
      try simp only [Act.put, List.setIfInBounds_toArray, List.set_cons_zero, List.set_cons_succ]
      have c9 : (u2.alloc (.cells #[.int .u16 ((x : Int) / 65536), .int .u8 0, .slice none 0 0, .slice none 0 0, .slice none 0 0] 61)).cell? ⟨b, 0, none⟩ = some (.slice A n0 c0) := (World.cell?_alloc_lt u2 _ ⟨b, 0, none⟩ S2.out.box.lt).trans c0'
      refine held_next 4 rfl (by kernel_rfl) (by rfl) ?_
      go_simp
      refine ⟨fun W => u2.heap.size ≤ W.heap.size, fun W hW => hW, (by simp), ?_⟩
      try simp only [Act.put, List.setIfInBounds_toArray, List.set_cons_zero, List.set_cons_succ]
      clear c9
      refine held_next 10 rfl (by kernel_rfl) (by rfl) ?_
      go_simp
      have CI := insert_c 0 (.slice A n0 c0) es i u2.heap.size ⟨kk, bd⟩ (u2.drew.alloc (.cells (eN.cs ⟨kk, bd⟩).toArray eN.E)) (S2.out.arr.alloc _) HF.out.le HL.out (Row.new u2.drew _ _) HNV.out (Nat.zero_le _)
      rw [← HONE.out] at CI
      refine CI.mono ?_
      clear CI
      rintro r w2 ⟨s1, rfl, gi, gg, go⟩
      refine ⟨fun W => u2.heap.size ≤ W.heap.size, fun W hW => hW, Nat.le_trans (by simp) gg.size, ?_⟩
      try simp only [Act.put, List.setIfInBounds_toArray, List.set_cons_zero, List.set_cons_succ]
      rcases gi.2 with ⟨-, h0⟩ | ⟨g, c, cur, rfl, hgb, hgr, hgn, hgm, hgs, hgt⟩
      · simp at h0
      obtain ⟨n, hn⟩ : ∃ n, (es.take i ++ [(⟨kk, bd⟩ : En)] ++ es.drop i).length = n := ⟨_, rfl⟩
      rw [hn] at hgn hgt ⊢
      rw [HONE.out] at gg go
      have GI := Lib.hid gg
      have RB2 : Row w2 b 64 #[.slice A n0 c0] := Row.grown (Row.below (S2.out.box) ((Below.refl u2.heap.size u2).drew.alloc (Nat.le_refl _) (.cells (eN.cs ⟨kk, bd⟩).toArray eN.E)) S2.out.box.lt) gg (fun e => HS.out.nbs (by first | exact e | exact e.symm))
      have d0 : w2.cell? ⟨b, 0, none⟩ = some (.slice A n0 c0) := RB2.cell 0
      have f0 := RB2.frozen 0
      have hbg : b ≠ g := fun e => by
        rcases go with h | ⟨g', h, h2⟩
        · have h1 : (Value.slice A n0 c0).ownBlock = some g := h.symm.trans rfl
          exact HS.out.nbs (by rw [h1, e])
        · have h1 : some g = some g' := h
          injection h1 with h1
          have h3 := S2.out.box.lt
          simp at h2
          omega
      have HBG := Lib.hid hbg
      have HGM : Hid (w.heap.size ≤ g ∨ (Value.slice A n0 c0).ownBlock = some g) := Lib.hid (by
        rcases go with h | ⟨g', h, h2⟩
        · exact .inr (h.symm.trans rfl)
        · have h1 : some g = some g' := h
          injection h1 with h1
          simp at h2
          have := B2.out.size
          exact .inl (by omega))
      have QR := Lib.hid hgr
      have PI : Hid ((es.take i).length = i) := Lib.hid (by have := HF.out.le; rw [List.length_take]; omega)
      have LEN := Lib.hid hn
      have CT : Hid (cur.toList.take (n * 5) = eN.row (es.take i ++ [(⟨kk, bd⟩ : En)] ++ es.drop i)) := Lib.hid hgt
      have CS : Hid (cur.size = c * 5) := Lib.hid hgs
      have NC : Hid (n ≤ c ∧ c ≤ maxLen) := Lib.hid ⟨hgn, hgm⟩
      clear hgb hgr hgn hgm hgs hgt hn gi gg go hbg
      refine held_take 11 ?_ rfl (by kernel_rfl) (by kernel_rfl) (by kernel_rfl) (fun _ _ _ h => h) (by rfl) ?_ (Nat.le_trans (by simp) GI.out.size) ?_
      rotate_left
      · (intro W hSW; go_simp; try rfl)
      try simp only [Act.put, List.setIfInBounds_toArray, List.set_cons_zero, List.set_cons_succ]
      refine held_take 12 ?_ rfl (by kernel_rfl) (by kernel_rfl) (by kernel_rfl) (fun _ _ _ h => h) (by rfl) ?_ (Nat.le_trans (by simp) GI.out.size) ?_
      rotate_left
      · (intro W hSW; go_simp; try rfl)
      try simp only [Act.put, List.setIfInBounds_toArray, List.set_cons_zero, List.set_cons_succ]
      refine held_next 13 rfl (by kernel_rfl) (by rfl) ?_
      go_simp
      have G3 := grown_set w2 b 0 (.slice (some ⟨g, 0, none⟩) n c)
      have RB3 := RB2.one_set (.slice (some ⟨g, 0, none⟩) n c)
      have RG3 : Row (w2.setCell ⟨b, 0, none⟩ (.slice (some ⟨g, 0, none⟩) n c)) g eN.E cur := Row.grown (show Row w2 g eN.E cur from QR.out) G3 (fun e => by injection e with e; exact HBG.out e)
      have OF3 : Off (fun k => k = b ∨ (Value.slice A n0 c0).ownBlock = some k) w (w2.setCell ⟨b, 0, none⟩ (.slice (some ⟨g, 0, none⟩) n c)) :=
        ((Off.of (below_both B2.out ((Below.refl u2.heap.size u2).drew.alloc (Nat.le_refl _) (.cells (eN.cs ⟨kk, bd⟩).toArray eN.E)))).trans (off_row GI.out) (M'' := fun k => (Value.slice A n0 c0).ownBlock = some k) (fun y hy h => absurd h id) (fun y _ h => h)).trans (off_grown2 G3) (fun y _ h => .inr h) (fun y _ h => .inl h)
      refine ⟨fun W => u2.heap.size ≤ W.heap.size, fun W hW => hW, Nat.le_trans (Nat.le_trans (by simp) GI.out.size) G3.size, ?_⟩
      generalize w2.setCell ⟨b, 0, none⟩ (.slice (some ⟨g, 0, none⟩) n c) = w3 at *
      refine wpAnyH_done (by kernel_rfl) ?_ _
      have RG := Lib.hid RG3
      have RB := Lib.hid RB3
      have OFF := Lib.hid OF3
      have T3 := Lib.hid (HTO.out w3 OF3)
      have MEM : Hid (∀ e, e ∈ es.take i ∨ e ∈ es.drop i → e.key.toNat < 65536 ∧ nz P e.key.toNat = true ∧ Cn (fun k => N k ∧ k ≠ g) w3 e.b.val (blk P e.key.toNat) (ck (blk P e.key.toNat))) := Lib.hid (fun e he => by
        have hm : e ∈ es := he.elim (fun h => List.mem_of_mem_take h) (fun h => List.mem_of_mem_drop h)
        obtain ⟨-, a1, a2, a3⟩ := HS.out.dir.mem e hm
        exact ⟨a1, a2, add_keep HS.out OFF.out HGM.out a3⟩)
      have CN : Hid (Cn (fun k => N k ∧ k ≠ g) w3 bd.val (blk P (x / 65536)) 1) := Lib.hid (by
        rw [HBD.out]
        exact zero_cn fun y hy => nz_not.1 HZ.out y hy)
      generalize es.take i = pre at *
      generalize es.drop i = post at *
      clear RG3 RB3 OF3 G3 RB2 d0 f0 GI QR
      have hS4 : w3.cell? ⟨b, 0, none⟩ = some (.slice (some ⟨g, 0, none⟩) n c) := RB.out.cell 0
      have CAT : Hid (∀ t, t < 5 → cur[i * 5 + t]? = (eN.cs ⟨kk, bd⟩)[t]?) := Lib.hid (fun t ht => cur_at PI.out LEN.out CT.out t ht)
      have k0 : w3.cell? ⟨g, i * 5 + 1, none⟩ = some (.int .u8 bd.κ) := (RG.out.cell (i * 5 + 1)).trans (CAT.out 1 (by omega))
      have k1 : w3.cell? ⟨g, i * 5 + 2, none⟩ = some (.slice bd.A bd.n bd.c) := (RG.out.cell (i * 5 + 2)).trans (CAT.out 2 (by omega))
      have k2 : w3.cell? ⟨g, i * 5 + 3, none⟩ = some (.slice bd.A2 bd.n2 bd.c2) := (RG.out.cell (i * 5 + 3)).trans (CAT.out 3 (by omega))
      have k3 : w3.cell? ⟨g, i * 5 + 4, none⟩ = some (.slice bd.A3 bd.n3 bd.c3) := (RG.out.cell (i * 5 + 4)).trans (CAT.out 4 (by omega))
      have hin : (i : Int) < (n : Int) := by have h1 := LEN.out; have h2 := PI.out; simp at h1; omega
      go_wp2_with fail
      refine wp_region_held_drew (S := fun W => W.cell? ⟨b, 0, none⟩ = some (.slice (some ⟨g, 0, none⟩) n c)) (by kernel_rfl) hS4 (fun _ => ?_)
      refine held_take 0 ?_ rfl (by kernel_rfl) (by kernel_rfl) (by kernel_rfl) (fun _ _ _ h => h) (by rfl) ?_ hS4 ?_
      rotate_left
      · (intro W hSW; go_simp; try rfl)
      try simp only [Act.put, List.setIfInBounds_toArray, List.set_cons_zero, List.set_cons_succ]
      refine held_take 1 ?_ rfl (by kernel_rfl) (by kernel_rfl) (by kernel_rfl) (fun _ _ _ h => h) (by rfl) ?_ hS4 ?_
      rotate_left
      · (intro W hSW; go_simp; try rfl)
      try simp only [Act.put, List.setIfInBounds_toArray, List.set_cons_zero, List.set_cons_succ]
      refine held_take 2 ?_ rfl (by kernel_rfl) (by kernel_rfl) (by kernel_rfl) (fun _ _ _ h => h) (by rfl) ?_ hS4 ?_
      rotate_left
      · (intro W hSW; go_simp; try rfl)
      try simp only [Act.put, List.setIfInBounds_toArray, List.set_cons_zero, List.set_cons_succ]
      refine held_take 3 ?_ rfl (by kernel_rfl) (by kernel_rfl) (by kernel_rfl) (fun _ _ _ h => h) (by rfl) ?_ hS4 ?_
      rotate_left
      · (intro W hSW; have hc := hSW; go_simp; try rfl)
      try simp only [Act.put, List.setIfInBounds_toArray, List.set_cons_zero, List.set_cons_succ]
      refine held_take 4 ?_ rfl (by kernel_rfl) (by kernel_rfl) (by kernel_rfl) (fun _ _ _ h => h) (by rfl) ?_ hS4 ?_
      rotate_left
      · (intro W hSW; go_simp; try rfl)
      try simp only [Act.put, List.setIfInBounds_toArray, List.set_cons_zero, List.set_cons_succ]
      refine held_take 5 ?_ rfl (by kernel_rfl) (by kernel_rfl) (by kernel_rfl) (fun _ _ _ h => h) (by rfl) ?_ hS4 ?_
      rotate_left
      · (intro W hSW; go_simp; try rfl)
      try simp only [Act.put, List.setIfInBounds_toArray, List.set_cons_zero, List.set_cons_succ]
      refine held_take 6 ?_ rfl (by kernel_rfl) (by kernel_rfl) (by kernel_rfl) (fun _ _ _ h => h) (by rfl) ?_ hS4 ?_
      rotate_left
      · (intro W hSW; go_simp; try rfl)
      try simp only [Act.put, List.setIfInBounds_toArray, List.set_cons_zero, List.set_cons_succ]
      refine held_take 7 ?_ rfl (by kernel_rfl) (by kernel_rfl) (by kernel_rfl) (fun _ _ _ h => h) (by rfl) ?_ hS4 ?_
      rotate_left
      · (intro W hSW; go_simp; try rfl)
      try simp only [Act.put, List.setIfInBounds_toArray, List.set_cons_zero, List.set_cons_succ]
      refine held_take 8 ?_ rfl (by kernel_rfl) (by kernel_rfl) (by kernel_rfl) (fun _ _ _ h => h) (by rfl) ?_ hS4 ?_
      rotate_left
      · (intro W hSW; have hc := hSW; go_simp; try rfl)
      try simp only [Act.put, List.setIfInBounds_toArray, List.set_cons_zero, List.set_cons_succ]
      refine held_take 9 ?_ rfl (by kernel_rfl) (by kernel_rfl) (by kernel_rfl) (fun _ _ _ h => h) (by rfl) ?_ hS4 ?_
      rotate_left
      · (intro W hSW; go_simp; try rfl)
      try simp only [Act.put, List.setIfInBounds_toArray, List.set_cons_zero, List.set_cons_succ]
      refine held_take 10 ?_ rfl (by kernel_rfl) (by kernel_rfl) (by kernel_rfl) (fun _ _ _ h => h) (by rfl) ?_ hS4 ?_
      rotate_left
      · (intro W hSW; go_simp; try rfl)
      try simp only [Act.put, List.setIfInBounds_toArray, List.set_cons_zero, List.set_cons_succ]
      refine held_take 11 ?_ rfl (by kernel_rfl) (by kernel_rfl) (by kernel_rfl) (fun _ _ _ h => h) (by rfl) ?_ hS4 ?_
      rotate_left
      · (intro W hSW; go_simp; try rfl)
      try simp only [Act.put, List.setIfInBounds_toArray, List.set_cons_zero, List.set_cons_succ]
      refine held_take 13 ?_ rfl (by kernel_rfl) (by kernel_rfl) (by kernel_rfl) (fun _ _ _ h => h) (by rfl) ?_ hS4 ?_
      rotate_left
      · (intro W hSW; go_simp; try rfl)
      try simp only [Act.put, List.setIfInBounds_toArray, List.set_cons_zero, List.set_cons_succ]
      refine held_two 12 14 rfl rfl (by kernel_rfl) (by rfl) (by rfl) ?_ ?_
      · skip
        go_simp
        refine ⟨fun W => W.cell? ⟨b, 0, none⟩ = some (.slice (some ⟨g, 0, none⟩) n c), fun W hW => hW, hS4, ?_⟩
        try simp only [Act.put, List.setIfInBounds_toArray, List.set_cons_zero, List.set_cons_succ]
        refine held_next 14 rfl (by kernel_rfl) (by rfl) ?_
        go_simp
        refine (low_c x _ hx).mono ?_
        rintro e wq ⟨rfl, hz⟩
        have hz := hz.symm
        subst hz
        refine ⟨fun W => W.cell? ⟨b, 0, none⟩ = some (.slice (some ⟨g, 0, none⟩) n c), fun W hW => hW, hS4, ?_⟩
        try simp only [Act.put, List.setIfInBounds_toArray, List.set_cons_zero, List.set_cons_succ]
        refine held_next 15 rfl (by kernel_rfl) (by rfl) ?_
        go_simp
        refine (cwith_any (N := fun k => N k ∧ k ≠ g) _ (blk P (x / 65536)) _ (x % 65536) w3.drew T3.out (fun k hk => ⟨HN.out k (Nat.le_trans OFF.out.size hk), fun e => by have h1 : g < w3.heap.size := RG.out.lt; have h2 : w3.heap.size ≤ k := hk; omega⟩) (Nat.mod_lt _ (by omega)) (CN.out.step (Below.refl w3.heap.size w3).drew)).mono ?_
        rintro e w5 ⟨v5, rfl, cn, b5⟩
        have b5 : Below w3.heap.size w3 w5 := ⟨b5.os, b5.tape, b5.output, b5.size, b5.block⟩
        obtain ⟨κ5, A5, n5, c5, A6, n6, c6, A7, n7, c7, rfl⟩ := cn.form
        have hS5 : w5.cell? ⟨b, 0, none⟩ = some (.slice (some ⟨g, 0, none⟩) n c) := (b5.cell (p := ⟨b, 0, none⟩) RB.out.lt).trans hS4
        refine ⟨fun W => W.cell? ⟨b, 0, none⟩ = some (.slice (some ⟨g, 0, none⟩) n c), fun W hW => hW, hS5, ?_⟩
        try simp only [Act.put, List.setIfInBounds_toArray, List.set_cons_zero, List.set_cons_succ]
        refine held_take 16 ?_ rfl (by kernel_rfl) (by kernel_rfl) (by kernel_rfl) (fun _ _ _ h => h) (by rfl) ?_ hS5 ?_
        rotate_left
        · (intro W hSW; go_simp; try rfl)
        try simp only [Act.put, List.setIfInBounds_toArray, List.set_cons_zero, List.set_cons_succ]
        refine held_take 17 ?_ rfl (by kernel_rfl) (by kernel_rfl) (by kernel_rfl) (fun _ _ _ h => h) (by rfl) ?_ hS5 ?_
        rotate_left
        · (intro W hSW; go_simp; try rfl)
        try simp only [Act.put, List.setIfInBounds_toArray, List.set_cons_zero, List.set_cons_succ]
        have RG5 := Lib.hid (Row.below RG.out b5 RG.out.lt)
        have k0 : w5.cell? ⟨g, i * 5 + 1, none⟩ = some (.int .u8 bd.κ) := (RG5.out.cell (i * 5 + 1)).trans (CAT.out 1 (by omega))
        have k1 : w5.cell? ⟨g, i * 5 + 2, none⟩ = some (.slice bd.A bd.n bd.c) := (RG5.out.cell (i * 5 + 2)).trans (CAT.out 2 (by omega))
        have k2 : w5.cell? ⟨g, i * 5 + 3, none⟩ = some (.slice bd.A2 bd.n2 bd.c2) := (RG5.out.cell (i * 5 + 3)).trans (CAT.out 3 (by omega))
        have k3 : w5.cell? ⟨g, i * 5 + 4, none⟩ = some (.slice bd.A3 bd.n3 bd.c3) := (RG5.out.cell (i * 5 + 4)).trans (CAT.out 4 (by omega))
        have z0 := RG5.out.frozen (i * 5 + 1)
        have z1 := RG5.out.frozen (i * 5 + 2)
        have z2 := RG5.out.frozen (i * 5 + 3)
        have z3 := RG5.out.frozen (i * 5 + 4)
        have FIN := Lib.hid (add_fin (ei := ⟨kk, bd⟩) ⟨κ5, A5, n5, c5, A6, n6, c6, A7, n7, c7⟩ hx HS.out OFF.out b5 RB.out RG.out CS.out NC.out PI.out LEN.out CT.out PL.out MEM.out KEY.out HGM.out HBG.out cn)
        refine held_next 18 rfl (by kernel_rfl) (by rfl) ?_
        go_simp
        have hS6 : ((((w5.setCell ⟨g, i * 5 + 1, none⟩ (.int .u8 κ5)).setCell ⟨g, i * 5 + 2, none⟩ (.slice A5 n5 c5)).setCell ⟨g, i * 5 + 3, none⟩ (.slice A6 n6 c6)).setCell ⟨g, i * 5 + 4, none⟩ (.slice A7 n7 c7)).cell? ⟨b, 0, none⟩ = some (.slice (some ⟨g, 0, none⟩) n c) :=
          (cell_four b g i κ5 _ _ _ w5 HBG.out).trans hS5
        refine ⟨fun W => W.cell? ⟨b, 0, none⟩ = some (.slice (some ⟨g, 0, none⟩) n c), fun W hW => hW, hS6, ?_⟩
        refine wpAnyH_done (by kernel_rfl) ?_ _
        clear k0 k1 k2 k3 z0 z1 z2 z3 cn b5 hS5 hS6 RG5
        go_wp2
        go_end0
        exact FIN.out
      · skip
        go_simp
        refine (low_c x _ hx).mono ?_
        rintro e wq ⟨rfl, hz⟩
        have hz := hz.symm
        subst hz
        refine ⟨fun W => W.cell? ⟨b, 0, none⟩ = some (.slice (some ⟨g, 0, none⟩) n c), fun W hW => hW, hS4, ?_⟩
        try simp only [Act.put, List.setIfInBounds_toArray, List.set_cons_zero, List.set_cons_succ]
        refine held_next 12 rfl (by kernel_rfl) (by rfl) ?_
        go_simp
        refine ⟨fun W => W.cell? ⟨b, 0, none⟩ = some (.slice (some ⟨g, 0, none⟩) n c), fun W hW => hW, hS4, ?_⟩
        try simp only [Act.put, List.setIfInBounds_toArray, List.set_cons_zero, List.set_cons_succ]
        refine held_next 15 rfl (by kernel_rfl) (by rfl) ?_
        go_simp
        refine (cwith_any (N := fun k => N k ∧ k ≠ g) _ (blk P (x / 65536)) _ (x % 65536) w3.drew T3.out (fun k hk => ⟨HN.out k (Nat.le_trans OFF.out.size hk), fun e => by have h1 : g < w3.heap.size := RG.out.lt; have h2 : w3.heap.size ≤ k := hk; omega⟩) (Nat.mod_lt _ (by omega)) (CN.out.step (Below.refl w3.heap.size w3).drew)).mono ?_
        rintro e w5 ⟨v5, rfl, cn, b5⟩
        have b5 : Below w3.heap.size w3 w5 := ⟨b5.os, b5.tape, b5.output, b5.size, b5.block⟩
        obtain ⟨κ5, A5, n5, c5, A6, n6, c6, A7, n7, c7, rfl⟩ := cn.form
        have hS5 : w5.cell? ⟨b, 0, none⟩ = some (.slice (some ⟨g, 0, none⟩) n c) := (b5.cell (p := ⟨b, 0, none⟩) RB.out.lt).trans hS4
        refine ⟨fun W => W.cell? ⟨b, 0, none⟩ = some (.slice (some ⟨g, 0, none⟩) n c), fun W hW => hW, hS5, ?_⟩
        try simp only [Act.put, List.setIfInBounds_toArray, List.set_cons_zero, List.set_cons_succ]
        refine held_take 16 ?_ rfl (by kernel_rfl) (by kernel_rfl) (by kernel_rfl) (fun _ _ _ h => h) (by rfl) ?_ hS5 ?_
        rotate_left
        · (intro W hSW; go_simp; try rfl)
        try simp only [Act.put, List.setIfInBounds_toArray, List.set_cons_zero, List.set_cons_succ]
        refine held_take 17 ?_ rfl (by kernel_rfl) (by kernel_rfl) (by kernel_rfl) (fun _ _ _ h => h) (by rfl) ?_ hS5 ?_
        rotate_left
        · (intro W hSW; go_simp; try rfl)
        try simp only [Act.put, List.setIfInBounds_toArray, List.set_cons_zero, List.set_cons_succ]
        have RG5 := Lib.hid (Row.below RG.out b5 RG.out.lt)
        have k0 : w5.cell? ⟨g, i * 5 + 1, none⟩ = some (.int .u8 bd.κ) := (RG5.out.cell (i * 5 + 1)).trans (CAT.out 1 (by omega))
        have k1 : w5.cell? ⟨g, i * 5 + 2, none⟩ = some (.slice bd.A bd.n bd.c) := (RG5.out.cell (i * 5 + 2)).trans (CAT.out 2 (by omega))
        have k2 : w5.cell? ⟨g, i * 5 + 3, none⟩ = some (.slice bd.A2 bd.n2 bd.c2) := (RG5.out.cell (i * 5 + 3)).trans (CAT.out 3 (by omega))
        have k3 : w5.cell? ⟨g, i * 5 + 4, none⟩ = some (.slice bd.A3 bd.n3 bd.c3) := (RG5.out.cell (i * 5 + 4)).trans (CAT.out 4 (by omega))
        have z0 := RG5.out.frozen (i * 5 + 1)
        have z1 := RG5.out.frozen (i * 5 + 2)
        have z2 := RG5.out.frozen (i * 5 + 3)
        have z3 := RG5.out.frozen (i * 5 + 4)
        have FIN := Lib.hid (add_fin (ei := ⟨kk, bd⟩) ⟨κ5, A5, n5, c5, A6, n6, c6, A7, n7, c7⟩ hx HS.out OFF.out b5 RB.out RG.out CS.out NC.out PI.out LEN.out CT.out PL.out MEM.out KEY.out HGM.out HBG.out cn)
        refine held_next 18 rfl (by kernel_rfl) (by rfl) ?_
        go_simp
        have hS6 : ((((w5.setCell ⟨g, i * 5 + 1, none⟩ (.int .u8 κ5)).setCell ⟨g, i * 5 + 2, none⟩ (.slice A5 n5 c5)).setCell ⟨g, i * 5 + 3, none⟩ (.slice A6 n6 c6)).setCell ⟨g, i * 5 + 4, none⟩ (.slice A7 n7 c7)).cell? ⟨b, 0, none⟩ = some (.slice (some ⟨g, 0, none⟩) n c) :=
          (cell_four b g i κ5 _ _ _ w5 HBG.out).trans hS5
        refine ⟨fun W => W.cell? ⟨b, 0, none⟩ = some (.slice (some ⟨g, 0, none⟩) n c), fun W hW => hW, hS6, ?_⟩
        refine wpAnyH_done (by kernel_rfl) ?_ _
        clear k0 k1 k2 k3 z0 z1 z2 z3 cn b5 hS5 hS6 RG5
        go_wp2
        go_end0
        exact FIN.out
end Go.Proofs.YtcmifbjeabkihabGreatDoor
