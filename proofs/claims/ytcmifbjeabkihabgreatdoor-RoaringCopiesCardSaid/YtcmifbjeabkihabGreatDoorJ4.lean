/- Words for memory: append of spans within the reach; an argument that is a slice of spans. -/
import Derived.Test.YtcmifbjeabkihabGreatDoorMd0

import Derived.Deep.SlicePairs
import Derived.ProofKit
import Derived.OpenShut
import Derived.ShutString
import Derived.ChangeOld
import Derived.Below
namespace Go.Proofs.YtcmifbjeabkihabGreatDoor
open Go.ChangeShapes Go.WideShapes Go.ChangeAt Go.RowKit Go.Deep
set_option linter.unusedVariables false

/-- append onto a slice of the call's own, from whatever slice: the run. -/
theorem run_gappb2 {α : Type} (k : Elem2 α) {P : Program} (w : World) (t ty : TypeId) (base : Nat) (ht : P.underlying t = some (.slice k.E))
    (hinf : (P.info? k.E).map (fun i => (i.zero, i.size, i.bytes)) = some (some (k.val k.zero), 2, k.bytes))
    (v : Value) (l : List α) (hown : Gw2 k w base v l) (lo hi : Nat) (u : Value) (m : List α) (hu : Gs2 k w lo hi u m) (hb : (l.length + m.length) * k.bytes ≤ 140737488355328) (hbase : base ≤ w.heap.size) (hlm : l.length + m.length ≤ maxLen) :
    ∃ v' w', (Builtin.append_ #[t, t] ty #[v, u]).run P w = .ok v' w' ∧ Gw2 k w' base v' (l ++ m) ∧ w.grownBy w' v.ownBlock ∧ (v'.ownBlock = v.ownBlock ∨ v'.ownBlock = some w.heap.size) := by
  obtain ⟨i, hi1, hz, hsz, hby⟩ := info_parts hinf
  obtain ⟨A, c, rfl, hc0, hlc, hcm, hbt⟩ := hu
  cases A with
  | none =>
    obtain rfl := hc0 rfl
    have hm : m = [] := List.eq_nil_of_length_eq_zero (by omega)
    subst hm
    exact ⟨v, w, run_append_owned_none (P := P) w base t ty k.E i 2 ht hi1 v _ _ hown, by simpa using hown, World.grownBy.refl w _, .inl rfl⟩
  | some ad =>
    obtain ⟨v', w', hrun, h2, h3, _, h5⟩ := run_append_own_at (P := P) w base t ty k.E i (k.val k.zero) 2 k.bytes ht hi1 hz hsz hby (by rfl) (by decide) v l.length (k.row l) hown ad m.length c (k.row m) (row2_len k m)
      (fun j y hy => by
        have hj : j < m.length * 2 := by
          have := (List.getElem?_eq_some_iff.1 hy).1
          rwa [row2_len] at this
        obtain ⟨b, off, e, _, _, hcell⟩ := hbt (by rintro rfl; simp at hj)
        injection e with e
        subst e
        rw [addr_add]
        have hjm : j / 2 < m.length := by omega
        obtain ⟨c1, c2⟩ := hcell (j / 2) _ (List.getElem?_eq_getElem hjm)
        rcases Nat.mod_two_eq_zero_or_one j with h0 | h0
        · have e2 : j = 2 * (j / 2) := by omega
          rw [e2, row2_fst k m _ _ (List.getElem?_eq_getElem hjm)] at hy
          injection hy with hy
          rw [e2, ← hy]
          have e3 : 2 * (j / 2) / 2 = j / 2 := by omega
          simpa [e3] using c1
        · have e2 : j = 2 * (j / 2) + 1 := by omega
          rw [e2, row2_snd k m _ _ (List.getElem?_eq_getElem hjm)] at hy
          injection hy with hy
          rw [e2, ← hy]
          have e3 : (2 * (j / 2) + 1) / 2 = j / 2 := by omega
          simpa [e3, Nat.add_assoc] using c2)
      (row2_one k m) hlm hb hbase
    refine ⟨v', w', hrun, ?_, h3, h5⟩
    unfold Gw2
    rw [row2_app, List.length_append]
    exact h2
theorem wpList_gappb2 {α : Type} (k : Elem2 α) {P : Program} (w : World) {ops : Array Oper} {rest : List Oper} {o : Oper} {a : Act} {Q : Exit → Act → World → Prop} (hgd : o.guard = none) (s x : Operand) (t : TypeId)
    (ho : o.op = .call { callee := .builtin .append, args := #[s, x], argTypes := #[t, t] }) (base : Nat) (ht : P.underlying t = some (.slice k.E))
    (hinf : (P.info? k.E).map (fun i => (i.zero, i.size, i.bytes)) = some (some (k.val k.zero), 2, k.bytes))
    (v : Value) (l : List α) (hs : a.eval s = v) (hown : Gw2 k w base v l)
    (lo hi : Nat) (u : Value) (m : List α) (hx : a.eval x = u) (hu : Gs2 k w lo hi u m)
    (hb : (l.length + m.length) * k.bytes ≤ 140737488355328) (hbase : base ≤ w.heap.size) (hlm : l.length + m.length ≤ maxLen)
    (h : ∀ v' w', Gw2 k w' base v' (l ++ m) → w.grownBy w' v.ownBlock → (v'.ownBlock = v.ownBlock ∨ v'.ownBlock = some w.heap.size) → wpList P ops Q rest (a.put o.dst v') w') :
    wpList P ops Q (o :: rest) a w := by
  obtain ⟨v', w', hrun, h2, h3, h5⟩ := run_gappb2 k (P := P) w t o.type base ht hinf v l hown lo hi u m hu hb hbase hlm
  refine wpList_plain hgd fun K hK => ?_
  unfold Oper.wp execOp
  simp only [ho, resolve, invoke, builtin, Sem.run_bind, Sem.run_pure, Result.andThen_ok, List.map_toArray, List.map_cons, List.map_nil, hs, hx, hrun]
  exact hK _ _ (h v' w' h2 h3 h5)
theorem u64_lit {V : Value} {n : Int} (h : V = .int .u64 n) (hw : (Lit.int .u64 n).wf = true) : ∃ u : UInt64, V = .int .u64 u.toNat := by
  simp [Lit.wf, IntKind.min, IntKind.max, IntKind.bits, IntKind.signed] at hw
  refine ⟨UInt64.ofNat n.toNat, ?_⟩
  rw [h, UInt64.toNat_ofNat']
  congr 1
  omega
theorem spans_row {H : Type} {enc : TypeId × Value → H} {w : World} {fuel : Nat} {a : Option Addr} {len cap : Nat} {x : DataW H × List MemPlace}
    (h : DataW.trod enc Tryz.prog w 0 (fun _ => true) true fuel 22 [.slice a len cap] = some x) : ∃ l : List Sn, l.length = len ∧ Gs2 eSp w 0 w.heap.size (.slice a len cap) l ∧ ((∀ n ∈ x.1.weights Tryz.prog 22, n ≤ reachBytes) → len * 16 ≤ 140737488355312) := by
  rcases open_slice_pairs Tryz.underlying22 Tryz.underlying39 (by kernel_rfl) rfl rfl (by kernel_rfl) (by kernel_rfl) h with ⟨hcs, hxe⟩ | ⟨ad, l, c, m, n, V0, V1, D0, D1, P0, P1, hcs, _, hl, hm, hmm, hxe, hx⟩
  · simp at hcs
    obtain ⟨rfl, rfl, rfl⟩ := hcs
    exact ⟨[], rfl, Gs2.nil_ _ _ _, fun _ => by omega⟩
  · simp at hcs
    obtain ⟨rfl, rfl, rfl⟩ := hcs
    simp only [if_true] at hmm
    subst hmm
    have hsz : (∀ n ∈ x.1.weights Tryz.prog 22, n ≤ reachBytes) → len * 16 ≤ 140737488355312 := fun hw => by
      have h16 : Tryz.prog.bytesOf 39 = 16 := by kernel_rfl
      have h3 := hw ((len + (m - len)) * 16) (by rw [hxe]; simp [DataW.weights, Tryz.underlying22, h16])
      unfold reachBytes at h3
      omega
    have each : ∀ i, i < len → ∃ r : Sn, w.cell? (ad.add (i * 2)) = some (.int .u64 r.1.toNat) ∧ w.cell? (ad.add (i * 2 + 1)) = some (.int .u64 r.2.toNat) := by
      intro i hi
      obtain ⟨h1, h2, h3, h4⟩ := hx i (by omega)
      obtain ⟨n0, e0, -, w0⟩ := DataW.trod_int Tryz.underlying37 h3
      obtain ⟨n1, e1, -, w1⟩ := DataW.trod_int Tryz.underlying37 h4
      obtain ⟨u0, hu0⟩ := u64_lit (by simpa using e0) w0
      obtain ⟨u1, hu1⟩ := u64_lit (by simpa using e1) w1
      exact ⟨(u0, u1), by rw [h1, hu0], by rw [h2, hu1]⟩
    obtain ⟨g, hg⟩ : ∃ g : Nat → Sn, ∀ i, i < len → w.cell? (ad.add (i * 2)) = some (.int .u64 (g i).1.toNat) ∧ w.cell? (ad.add (i * 2 + 1)) = some (.int .u64 (g i).2.toNat) :=
      ⟨fun i => if h : i < len then Classical.choose (each i h) else (0, 0), fun i h => by simp only [dif_pos h]; exact Classical.choose_spec (each i h)⟩
    have hlen : ((List.range len).map g).length = len := by simp
    refine ⟨(List.range len).map g, hlen, ⟨some ad, _, by rw [hlen], fun e => (by cases e), by rw [hlen]; exact hl, hm, fun hne => ?_⟩, hsz⟩
    have h0 : 0 < len := by
      rcases Nat.eq_zero_or_pos len with h | h
      · subst h; simp at hne
      · exact h
    obtain ⟨b, off, spot⟩ := ad
    have hc0 := (hg 0 h0).1
    have hspot : spot = none := by simpa [Addr.add] using World.cell?_spot hc0
    subst hspot
    have hb : b < w.heap.size := by
      have := World.block_lt_of_cell? w _ hc0
      simpa [Addr.add] using this
    refine ⟨b, off, rfl, Nat.zero_le _, hb, fun j y hy => ?_⟩
    have hj : j < len := by
      have := (List.getElem?_eq_some_iff.1 hy).1
      simpa using this
    obtain ⟨c0, c1⟩ := hg j hj
    rw [addr_add] at c0 c1
    rw [List.getElem?_map, List.getElem?_range hj] at hy
    simp at hy
    subst hy
    rw [Nat.mul_comm 2 j]
    exact ⟨c0, by rw [Nat.add_assoc]; exact c1⟩
end Go.Proofs.YtcmifbjeabkihabGreatDoor
