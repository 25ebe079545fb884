/- Words for memory: an entry written over in a row of entries; a directory with one number more. -/
import Derived.Test.YtcmifbjeabkihabGreatDoorJ13
namespace Go.Proofs.YtcmifbjeabkihabGreatDoor
open Go.RowKit
set_option linter.unusedVariables false

theorem off_grown2 {w w' : World} {g : Nat} (h : w.grownBy w' (some g)) : Off (fun x => x = g) w w' :=
  ⟨h.os, h.tape, h.output, h.size, fun k hk hm => h.block k hk fun e => hm (by injection e)⟩
theorem row_mid (pre post : List En) (e : En) : eN.row (pre ++ [e] ++ post) = eN.row pre ++ (eN.cs e ++ eN.row post) := by
  rw [rowv_app, rowv_app, List.append_assoc]
  congr 2
theorem row_set4 (pre post : List En) (e : En) (i : Nat) (nb : Bd) (hi : pre.length = i) :
    ((((eN.row (pre ++ [e] ++ post)).set (i * 5 + 1) (.int .u8 nb.κ)).set (i * 5 + 2) (.slice nb.A nb.n nb.c)).set (i * 5 + 3) (.slice nb.A2 nb.n2 nb.c2)).set (i * 5 + 4) (.slice nb.A3 nb.n3 nb.c3) = eN.row (pre ++ [⟨e.key, nb⟩] ++ post) := by
  have hl : (eN.row pre).length = i * 5 := by rw [rowv_len, hi]; rfl
  rw [row_mid, row_mid]
  rw [List.set_append_right _ _ (by omega), List.set_append_right _ _ (by omega), List.set_append_right _ _ (by omega), List.set_append_right _ _ (by omega), hl]
  rw [show i * 5 + 1 - i * 5 = 1 by omega, show i * 5 + 2 - i * 5 = 2 by omega, show i * 5 + 3 - i * 5 = 3 by omega, show i * 5 + 4 - i * 5 = 4 by omega]
  congr 1
/-- Four cells of the i-th entry are written over. -/
theorem set4i {w : World} {g : Nat} {cur : Array Value} {pre post : List En} {e : En} {i n c : Nat} (nb : Bd) (h : Row w g eN.E cur) (hs : cur.size = c * 5) (hn : n ≤ c) (hi : pre.length = i) (hl : (pre ++ [e] ++ post).length = n)
    (ht : cur.toList.take (n * 5) = eN.row (pre ++ [e] ++ post)) :
    (∃ cur2 : Array Value, Row ((((w.setCell ⟨g, i * 5 + 1, none⟩ (.int .u8 nb.κ)).setCell ⟨g, i * 5 + 2, none⟩ (.slice nb.A nb.n nb.c)).setCell ⟨g, i * 5 + 3, none⟩ (.slice nb.A2 nb.n2 nb.c2)).setCell ⟨g, i * 5 + 4, none⟩ (.slice nb.A3 nb.n3 nb.c3)) g eN.E cur2 ∧ cur2.size = c * 5 ∧ cur2.toList.take (n * 5) = eN.row (pre ++ [⟨e.key, nb⟩] ++ post)) ∧
    w.grownBy ((((w.setCell ⟨g, i * 5 + 1, none⟩ (.int .u8 nb.κ)).setCell ⟨g, i * 5 + 2, none⟩ (.slice nb.A nb.n nb.c)).setCell ⟨g, i * 5 + 3, none⟩ (.slice nb.A2 nb.n2 nb.c2)).setCell ⟨g, i * 5 + 4, none⟩ (.slice nb.A3 nb.n3 nb.c3)) (some g) := by
  have R := (((h.set_ (i * 5 + 1) (.int .u8 nb.κ)).set_ (i * 5 + 2) (.slice nb.A nb.n nb.c)).set_ (i * 5 + 3) (.slice nb.A2 nb.n2 nb.c2)).set_ (i * 5 + 4) (.slice nb.A3 nb.n3 nb.c3)
  refine ⟨⟨_, R, by simpa using hs, ?_⟩, ?_⟩
  · rw [Array.toList_setIfInBounds, Array.toList_setIfInBounds, Array.toList_setIfInBounds, Array.toList_setIfInBounds, List.take_set, List.take_set, List.take_set, List.take_set, ht]
    exact row_set4 pre post e i nb hi
  · have tr : ∀ {x y z : World}, x.grownBy y (some g) → y.grownBy z (some g) → x.grownBy z (some g) := fun a c =>
      ⟨c.os.trans a.os, c.tape.trans a.tape, c.output.trans a.output, Nat.le_trans a.size c.size, fun k hk hne => (c.block k (Nat.lt_of_lt_of_le hk a.size) hne).trans (a.block k hk hne)⟩
    exact tr (tr (tr (grown_set w g _ _) (grown_set _ g _ _)) (grown_set _ g _ _)) (grown_set _ g _ _)
/-- What is read of the i-th entry. -/
theorem cur_at {cur : Array Value} {pre post : List En} {e : En} {i n : Nat} (hi : pre.length = i) (hl : (pre ++ [e] ++ post).length = n) (ht : cur.toList.take (n * 5) = eN.row (pre ++ [e] ++ post)) (t : Nat) (h5 : t < 5) : cur[i * 5 + t]? = (eN.cs e)[t]? := by
  have h1 := rowv_at eN (pre ++ [e] ++ post) i e (by rw [List.append_assoc, List.getElem?_append_right (by omega), hi, Nat.sub_self]; rfl) t h5
  rw [← ht, List.getElem?_take_of_lt (by show 5 * i + t < _; simp at hl; omega)] at h1
  rw [← h1, show i * 5 + t = eN.n * i + t by show _ = 5 * i + t; omega]
  simp
theorem dir_mid {N' : Nat → Prop} {w' : World} {P : Nat → Bool} {x : Nat} {pre post : List En} {e' : En} (hx : x < 4294967296) (hrp : ris (pre.map En.key) = true) (hrq : ris (post.map En.key) = true)
    (hlo : ∀ e ∈ pre, e.key.toNat < x / 65536) (hhi : ∀ e ∈ post, x / 65536 < e.key.toNat)
    (hmem : ∀ e, e ∈ pre ∨ e ∈ post → e.key.toNat < 65536 ∧ nz P e.key.toNat = true ∧ Cn N' w' e.b.val (blk P e.key.toNat) (ck (blk P e.key.toNat)))
    (hall : ∀ k, k < 65536 → k ≠ x / 65536 → nz P k = true → ∃ e, (e ∈ pre ∨ e ∈ post) ∧ e.key.toNat = k) (hk : e'.key.toNat = x / 65536)
    (hc : Cn N' w' e'.b.val (pls (blk P (x / 65536)) (x % 65536)) (ck (pls (blk P (x / 65536)) (x % 65536)))) : Dir N' w' (pl P x) 0 65536 (pre ++ [e'] ++ post) := by
  have hbl : ∀ y, y < 65536 → pls (blk P (x / 65536)) (x % 65536) y = blk (pl P x) (x / 65536) y := fun y hy => by
    rw [blk_pl_at _ x y hy]
    unfold pls
    rfl
  refine ⟨?_, fun e he => ?_, fun k h1 h2 h3 => ?_⟩
  · rw [List.map_append, List.map_append]
    refine ris_app (ris_app hrp rfl fun a ha b hb => ?_) hrq fun a ha b hb => ?_
    · obtain ⟨e, he, rfl⟩ := List.mem_map.1 ha
      simp at hb
      subst hb
      rw [hk]; exact hlo e he
    · obtain ⟨f, hf, rfl⟩ := List.mem_map.1 hb
      rw [List.mem_append] at ha
      rcases ha with ha | ha
      · obtain ⟨e, he, rfl⟩ := List.mem_map.1 ha
        exact Nat.lt_trans (hlo e he) (hhi f hf)
      · simp at ha
        subst ha
        rw [hk]; exact hhi f hf
  · by_cases hek : e.key.toNat = x / 65536
    · have : e = e' := by
        rw [List.mem_append, List.mem_append] at he
        rcases he with (he | he) | he
        · exact absurd hek (Nat.ne_of_lt (hlo e he))
        · simpa using he
        · exact absurd hek (Nat.ne_of_gt (hhi e he))
      subst this
      rw [hk]
      exact ⟨Nat.zero_le _, by omega, nz_pl_at P x, by rw [← ck_ext hbl]; exact hc.ext hbl⟩
    · have hm : e ∈ pre ∨ e ∈ post := by
        rw [List.mem_append, List.mem_append] at he
        rcases he with (he | he) | he
        · exact .inl he
        · simp at he; subst he; exact absurd hk hek
        · exact .inr he
      obtain ⟨a, b, c⟩ := hmem e hm
      have hb2 := blk_pl_off P x hek
      exact ⟨Nat.zero_le _, a, by rw [nz_pl_off P x hek]; exact b, by rw [ck_ext hb2]; exact c.ext fun y hy => (hb2 y hy).symm⟩
  · by_cases hek : k = x / 65536
    · exact ⟨e', by simp, by rw [hk, hek]⟩
    · rw [nz_pl_off P x hek] at h3
      obtain ⟨e, he, hke⟩ := hall k h2 hek h3
      exact ⟨e, by rcases he with he | he <;> simp [he], hke⟩
theorem cwith_any {N : Nat → Prop} (v : Value) (p : Nat → Bool) (k x : Nat) (w : World) (hT : Tb w) (hN : ∀ b, w.heap.size ≤ b → N b) (hx : x < 65536) (h : Cn N w v p k) :
    Calls Tryz.prog 38 #[v, .int .u16 x] w fun e w' => ∃ v', e = .returned v' ∧ Cn N w' v' (pls p x) (ck (pls p x)) ∧ Below w.heap.size w w' := by
  cases h with
  | arr κ A n c hκ hn h => exact with_1 κ A n c p x w hT hN hx hκ hn h
  | wrd A c h => exact with_2 _ p x w hT hN hx (.wrd A c h)
  | run A n c hn h => exact with_3 _ p x w hT hN hx (.run A n c hn h)
/-- What a directory is of a key's place: what stands ahead of it, what stands behind it. -/
structure Pls (P : Nat → Bool) (k : Nat) (pre post : List En) : Prop where
  rp : ris (pre.map En.key) = true
  rq : ris (post.map En.key) = true
  lo : ∀ e ∈ pre, e.key.toNat < k
  hi : ∀ e ∈ post, k < e.key.toNat
  all : ∀ j, j < 65536 → j ≠ k → nz P j = true → ∃ e, (e ∈ pre ∨ e ∈ post) ∧ e.key.toNat = j
theorem pls_no {N : Nat → Prop} {w : World} {P : Nat → Bool} {es : List En} {k i : Nat} (d : Dir N w P 0 65536 es) (F : Fnd es P k i) (hn : nz P k = false) : Pls P k (es.take i) (es.drop i) := by
  have hr := d.ris
  rw [← List.take_append_drop i es, List.map_append] at hr
  obtain ⟨h1, h2, -⟩ := ris_split hr
  refine ⟨h1, h2, fun e he => ?_, fun e he => ?_, fun j hj hne hz => ?_⟩
  · obtain ⟨j, hj, hje⟩ := List.getElem_of_mem he
    have hji : j < i := by simp at hj; omega
    have h3 : es[j]? = some e := by
      rw [List.getElem_take] at hje
      rw [← hje, List.getElem?_eq_getElem]
    rw [← ka_of h3]
    exact F.lo j hji
  · obtain ⟨j, hj, hje⟩ := List.getElem_of_mem he
    have hjl : i + j < es.length := by simp at hj; omega
    have h3 : es[i + j]? = some e := by
      rw [List.getElem_drop] at hje
      rw [← hje, List.getElem?_eq_getElem]
    have h4 := F.hi (i + j) (by omega) hjl
    rw [ka_of h3] at h4
    have h5 := (d.mem e (List.mem_of_getElem? h3)).2.2.1
    rcases Nat.lt_or_eq_of_le h4 with h6 | h6
    · exact h6
    · rw [← h6, hn] at h5; cases h5
  · obtain ⟨e, he, hk⟩ := d.all j (Nat.zero_le _) hj hz
    rw [← List.take_append_drop i es, List.mem_append] at he
    exact ⟨e, he, hk⟩
theorem pls_yes {N : Nat → Prop} {w : World} {P : Nat → Bool} {es : List En} {k i : Nat} {e : En} (d : Dir N w P 0 65536 es) (he : es[i]? = some e) (hk : e.key.toNat = k) : Pls P k (es.take i) (es.drop (i + 1)) ∧ es = es.take i ++ [e] ++ es.drop (i + 1) := by
  have hil := (List.getElem?_eq_some_iff.1 he).1
  have hes : es = es.take i ++ [e] ++ es.drop (i + 1) := by
    conv => lhs; rw [← List.take_append_drop i es]
    rw [List.append_assoc]
    congr 1
    rw [List.drop_eq_getElem_cons hil]
    congr 1
    rw [List.getElem?_eq_getElem hil] at he
    injection he
  have hr := d.ris
  rw [hes, List.map_append, List.map_append] at hr
  obtain ⟨h1, h2, h3⟩ := ris_split hr
  obtain ⟨h4, -, h5⟩ := ris_split h1
  refine ⟨⟨h4, h2, fun f hf => ?_, fun f hf => ?_, fun j hj hne hz => ?_⟩, hes⟩
  · rw [← hk]
    exact h5 _ (List.mem_map_of_mem hf) _ (by simp)
  · rw [← hk]
    exact h3 _ (by simp) _ (List.mem_map_of_mem hf)
  · obtain ⟨f, hf, hfk⟩ := d.all j (Nat.zero_le _) hj hz
    rw [hes, List.mem_append, List.mem_append] at hf
    rcases hf with (hf | hf) | hf
    · exact ⟨f, .inl hf, hfk⟩
    · simp at hf; subst hf; exact absurd (hfk.symm.trans hk) hne
    · exact ⟨f, .inr hf, hfk⟩
end Go.Proofs.YtcmifbjeabkihabGreatDoor
