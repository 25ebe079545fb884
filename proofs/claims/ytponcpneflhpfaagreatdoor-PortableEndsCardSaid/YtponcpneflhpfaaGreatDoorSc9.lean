/- Words for memory: a slice of containers; make of such; an element stored. Which containers a set has. -/
import Derived.Test.YtponcpneflhpfaaGreatDoorSa5
import Derived.Test.YtponcpneflhpfaaGreatDoorKpS
import Derived.Test.YtponcpneflhpfaaGreatDoorSb1
import Derived.Test.YtponcpneflhpfaaGreatDoorSb5
import Derived.Test.YtponcpneflhpfaaGreatDoorSb9
namespace Go.Proofs.YtponcpneflhpfaaGreatDoor
set_option linter.unusedVariables false

/-- A container in an image: its key, its numbers, whether it is told as runs. -/
structure Ct where
  key : UInt16
  p : Nat → Bool
  r : Bool
def Ct.n (c : Ct) : Nat := ct c.p 65536
def Ct.m (c : Ct) : Nat := ct (hm c.p) 65536
def bdA (l : List UInt16) : List UInt8 := l.flatMap fun x => le 2 x.toNat
def bdW (l : List UInt64) : List UInt8 := l.flatMap fun x => le 8 x.toNat
def bdP (l : List Rn) : List UInt8 := l.flatMap fun r => le 2 r.1.toNat ++ le 2 r.2.toNat
def Ct.body (c : Ct) : List UInt8 := if c.r then le 2 c.m ++ bdP (rs c.p 65536) else if c.n ≤ 4096 then bdA (ls c.p 65536) else bdW (wm c.p)
def Ct.sz (c : Ct) : Nat := if c.r then 2 + 4 * c.m else if c.n ≤ 4096 then 2 * c.n else 8192
/-- Flags as bytes. -/
def flg (f : Nat → Bool) (m : Nat) : List UInt8 := (List.range m).map fun j => UInt8.ofNat (wn (fun i => f (8 * j + i)) 8)
def fbit (cs : List Ct) (i : Nat) : Bool := ((cs[i]?).map Ct.r).getD false
def anyr (cs : List Ct) : Bool := cs.any Ct.r
def coo (cs : List Ct) : List UInt8 := if anyr cs then le 2 12347 ++ (le 2 (cs.length - 1) ++ flg (fbit cs) ((cs.length + 7) / 8)) else le 4 12346 ++ le 4 cs.length
def hdr (cs : List Ct) : List UInt8 := cs.flatMap fun c => le 2 c.key.toNat ++ le 2 (c.n - 1)
def ofl : Nat → List Ct → List Nat
  | _, [] => []
  | a, c :: r => a :: ofl (a + c.sz) r
def bd4 (l : List Nat) : List UInt8 := l.flatMap fun x => le 4 x
def hofs (cs : List Ct) : Bool := !anyr cs || decide (4 ≤ cs.length)
def cool (cs : List Ct) : Nat := if anyr cs then 4 + (cs.length + 7) / 8 else 8
def ofsl (cs : List Ct) : Nat := if hofs cs then 4 * cs.length else 0
def ahed (cs : List Ct) : Nat := cool cs + 4 * cs.length + ofsl cs
def ofs (cs : List Ct) : List UInt8 := if hofs cs then bd4 (ofl (ahed cs) cs) else []
def bodies (cs : List Ct) : List UInt8 := cs.flatMap Ct.body
/-- The image. -/
def img (cs : List Ct) : List UInt8 := coo cs ++ (hdr cs ++ (ofs cs ++ bodies cs))
def szs (cs : List Ct) : Nat := (cs.map Ct.sz).sum

theorem flatMap_len {α : Type} (k : Nat) (f : α → List UInt8) (h : ∀ x, (f x).length = k) (l : List α) : (l.flatMap f).length = k * l.length := by
  induction l with
  | nil => simp
  | cons a l ih => rw [List.flatMap_cons, List.length_append, h, ih, List.length_cons, Nat.mul_add, Nat.mul_one, Nat.add_comm]
theorem bdA_len (l : List UInt16) : (bdA l).length = 2 * l.length := flatMap_len 2 _ (fun x => le_length _ _) l
theorem bdW_len (l : List UInt64) : (bdW l).length = 8 * l.length := flatMap_len 8 _ (fun x => le_length _ _) l
theorem bd4_len (l : List Nat) : (bd4 l).length = 4 * l.length := flatMap_len 4 _ (fun x => le_length _ _) l
theorem bdP_len (l : List Rn) : (bdP l).length = 4 * l.length := flatMap_len 4 _ (fun x => by rw [List.length_append, le_length, le_length]) l
theorem hdr_len (cs : List Ct) : (hdr cs).length = 4 * cs.length := flatMap_len 4 _ (fun x => by rw [List.length_append, le_length, le_length]) cs
theorem flg_len (f : Nat → Bool) (m : Nat) : (flg f m).length = m := by simp [flg]
theorem body_len (c : Ct) : c.body.length = c.sz := by
  unfold Ct.body Ct.sz
  split
  · rw [List.length_append, le_length, bdP_len, rs_len]; rfl
  · split
    · rw [bdA_len, ls_ct]; rfl
    · rw [bdW_len, wm_length]
theorem bodies_len (cs : List Ct) : (bodies cs).length = szs cs := by
  induction cs with
  | nil => rfl
  | cons c cs ih => unfold bodies szs at *; rw [List.flatMap_cons, List.length_append, ih, body_len, List.map_cons, List.sum_cons]
theorem ofl_len (a : Nat) (cs : List Ct) : (ofl a cs).length = cs.length := by
  induction cs generalizing a with
  | nil => rfl
  | cons c cs ih => simp [ofl, ih]
theorem coo_len (cs : List Ct) : (coo cs).length = cool cs := by
  unfold coo cool
  split
  · rw [List.length_append, List.length_append, le_length, le_length, flg_len]; omega
  · rw [List.length_append, le_length, le_length]
theorem ofs_len (cs : List Ct) : (ofs cs).length = ofsl cs := by
  unfold ofs ofsl
  split
  · rw [bd4_len, ofl_len]
  · rfl
theorem img_len (cs : List Ct) : (img cs).length = ahed cs + szs cs := by
  unfold img ahed
  rw [List.length_append, List.length_append, List.length_append, coo_len, hdr_len, ofs_len, bodies_len]
  omega
theorem szs_take {cs : List Ct} {i : Nat} {c : Ct} (h : cs[i]? = some c) : szs (cs.take (i + 1)) = szs (cs.take i) + c.sz := by
  unfold szs
  rw [List.take_add_one, h, List.map_append, List.sum_append]; simp
theorem szs_take_le (cs : List Ct) (i : Nat) : szs (cs.take i) ≤ szs cs := by
  have : szs cs = szs (cs.take i) + szs (cs.drop i) := by
    unfold szs
    rw [← List.sum_append, ← List.map_append, List.take_append_drop]
  omega
theorem ofl_at {cs : List Ct} {i : Nat} {c : Ct} (a : Nat) (h : cs[i]? = some c) : (ofl a cs)[i]? = some (a + szs (cs.take i)) := by
  induction cs generalizing a i with
  | nil => simp at h
  | cons d cs ih =>
    cases i with
    | zero => simp [ofl, szs]
    | succ i =>
      rw [List.getElem?_cons_succ] at h
      rw [ofl, List.getElem?_cons_succ, ih _ h, List.take_succ_cons]
      simp [szs]; omega
theorem ofl_take (a : Nat) (cs : List Ct) (k : Nat) : ofl a (cs.take k) = (ofl a cs).take k := by
  induction cs generalizing a k with
  | nil => simp [ofl]
  | cons d cs ih =>
    cases k with
    | zero => simp [ofl]
    | succ k => rw [List.take_succ_cons, ofl, ofl, List.take_succ_cons, ih]
theorem flatMap_take {α β : Type} (f : α → List β) {l : List α} {i : Nat} {c : α} (h : l[i]? = some c) : (l.take (i + 1)).flatMap f = (l.take i).flatMap f ++ f c := by
  rw [List.take_add_one, h, List.flatMap_append]; simp
theorem flatMap_split {α β : Type} (f : α → List β) {l : List α} {i : Nat} {c : α} (h : l[i]? = some c) : (l.drop i).flatMap f = f c ++ (l.drop (i + 1)).flatMap f := by
  obtain ⟨hi, rfl⟩ := List.getElem?_eq_some_iff.1 h
  rw [List.drop_eq_getElem_cons hi, List.flatMap_cons]

/-- Bytes that agree, as far as both reach. -/
def Ag (X Y : List UInt8) : Prop := ∀ (i : Nat) (x y : UInt8), X[i]? = some x → Y[i]? = some y → x = y
theorem Ag.cut {X a b : List UInt8} (h : Ag X (a ++ b)) (hl : a.length ≤ X.length) : X.take a.length = a ∧ Ag (X.drop a.length) b := by
  constructor
  · refine List.ext_getElem? fun i => ?_
    by_cases hi : i < a.length
    · have h1 : X[i]? = some (X[i]'(by omega)) := List.getElem?_eq_getElem _
      have h2 : a[i]? = some (a[i]'hi) := List.getElem?_eq_getElem _
      have h3 := h i _ _ h1 (by rw [List.getElem?_append_left hi]; exact h2)
      rw [List.getElem?_take, if_pos hi, h1, h2, h3]
    · rw [List.getElem?_take, if_neg hi, List.getElem?_eq_none (by omega)]
  · intro i x y h1 h2
    rw [List.getElem?_drop] at h1
    exact h _ x y h1 (by rw [List.getElem?_append_right (by omega), Nat.add_sub_cancel_left]; exact h2)
theorem Ag.cut_at {X a b : List UInt8} {n : Nat} (h : Ag X (a ++ b)) (hn : a.length = n) (hl : n ≤ X.length) : X.take n = a ∧ Ag (X.drop n) b := by
  subst hn; exact h.cut hl
theorem Ag.refl (Y Z : List UInt8) : Ag (Y ++ Z) Y := fun i x y h1 h2 => by
  have hi := (List.getElem?_eq_some_iff.1 h2).1
  rw [List.getElem?_append_left hi, h2] at h1
  injection h1 with h1; exact h1.symm
theorem Ag.short (Y : List UInt8) (k : Nat) : Ag (Y.take k) Y := fun i x y h1 h2 => by
  rw [List.getElem?_take] at h1
  split at h1
  · rw [h1] at h2; injection h2
  · cases h1

/-- Bytes of a number, the lowest first, are had again. -/
theorem le_mod (k n : Nat) : leVal (le k n) = n % 256 ^ k := by
  induction k generalizing n with
  | zero => simp [le, leVal, Nat.mod_one]
  | succ k ih =>
    rw [le, leVal, ih, Nat.pow_succ, Nat.mul_comm (256 ^ k) 256, Nat.mod_mul]
    simp
theorem le_inj {k a b : Nat} (ha : a < 256 ^ k) (hb : b < 256 ^ k) (h : le k a = le k b) : a = b := by
  have := congrArg leVal h
  rwa [le_mod, le_mod, Nat.mod_eq_of_lt ha, Nat.mod_eq_of_lt hb] at this
theorem le_app (j k n : Nat) : le (j + k) n = le j n ++ le k (n / 256 ^ j) := by
  induction j generalizing n with
  | zero => simp [le]
  | succ j ih =>
    rw [show j + 1 + k = (j + k) + 1 from by omega, le, le, ih, List.cons_append, Nat.div_div_eq_div_mul, Nat.pow_succ, Nat.mul_comm 256]
theorem flg_at (f : Nat → Bool) {m j : Nat} (hj : j < m) : (flg f m)[j]? = some (UInt8.ofNat (wn (fun i => f (8 * j + i)) 8)) := by
  simp [flg, hj]
theorem fbyte_lt (f : Nat → Bool) (j : Nat) : wn (fun i => f (8 * j + i)) 8 < 256 := wn_lt _ 8
theorem fbyte_bit (f : Nat → Bool) (j t : Nat) (ht : t < 8) : wn (fun i => f (8 * j + i)) 8 / 2 ^ t % 2 = (f (8 * j + t)).toNat := by
  have := wn_bit (fun i => f (8 * j + i)) 8 t
  rw [Nat.testBit_eq_decide_div_mod_eq] at this
  simp only [ht, decide_true, Bool.true_and] at this
  cases hf : f (8 * j + t) with
  | true => rw [hf] at this; simpa using this
  | false => rw [hf] at this; have := of_decide_eq_false this; simp; omega
theorem fbit_at {cs : List Ct} {i : Nat} {c : Ct} (h : cs[i]? = some c) : fbit cs i = c.r := by simp [fbit, h]
theorem fbit_off {cs : List Ct} {i : Nat} (h : cs.length ≤ i) : fbit cs i = false := by simp [fbit, List.getElem?_eq_none h]
theorem anyr_iff {cs : List Ct} : anyr cs = true ↔ ∃ i, i < cs.length ∧ fbit cs i = true := by
  unfold anyr
  rw [List.any_eq_true]
  constructor
  · rintro ⟨c, hc, hr⟩
    obtain ⟨i, hi, rfl⟩ := List.mem_iff_getElem.1 hc
    exact ⟨i, hi, by rw [fbit_at (List.getElem?_eq_getElem hi)]; exact hr⟩
  · rintro ⟨i, hi, hr⟩
    rw [fbit_at (List.getElem?_eq_getElem hi)] at hr
    exact ⟨_, List.getElem_mem hi, hr⟩
theorem flg_ext {f g : Nat → Bool} {m : Nat} (h : ∀ i, i < 8 * m → f i = g i) : flg f m = flg g m := by
  unfold flg
  refine List.map_congr_left fun j hj => ?_
  have hj := List.mem_range.1 hj
  have : ∀ k, k ≤ 8 → wn (fun i => f (8 * j + i)) k = wn (fun i => g (8 * j + i)) k := fun k => by
    induction k with
    | zero => intro _; rfl
    | succ k ih => intro hk; rw [wn, wn, ih (by omega), h _ (by omega)]
  rw [this 8 (Nat.le_refl _)]
theorem flg_inj {f g : Nat → Bool} {m : Nat} (h : flg f m = flg g m) : ∀ i, i < 8 * m → f i = g i := fun i hi => by
  have h1 := flg_at f (m := m) (j := i / 8) (by omega)
  have h2 := flg_at g (m := m) (j := i / 8) (by omega)
  rw [h, h2] at h1
  injection h1 with h1
  have h3 := congrArg UInt8.toNat h1
  have f1 := fbyte_lt f (i / 8)
  have f2 := fbyte_lt g (i / 8)
  rw [UInt8.toNat_ofNat', UInt8.toNat_ofNat', Nat.mod_eq_of_lt f1, Nat.mod_eq_of_lt f2] at h3
  have b1 := fbyte_bit f (i / 8) (i % 8) (by omega)
  have b2 := fbyte_bit g (i / 8) (i % 8) (by omega)
  rw [← h3, b2, show 8 * (i / 8) + i % 8 = i from by omega] at b1
  revert b1
  cases f i <;> cases g i <;> simp
end Go.Proofs.YtponcpneflhpfaaGreatDoor
namespace Go.Proofs.YtponcpneflhpfaaGreatDoor
set_option linter.unusedVariables false

/-- Two containers are alike. -/
def Ct.same (c d : Ct) : Prop := c.key = d.key ∧ c.r = d.r ∧ ∀ x, x < 65536 → c.p x = d.p x
def Ct.ok (c : Ct) : Prop := 0 < c.n
theorem Ct.n_le (c : Ct) : c.n ≤ 65536 := ct_le _ _
theorem Ct.m_le (c : Ct) : c.m ≤ 32768 := by
  have h1 : ∀ k, ct (hm c.p) (2 * k) ≤ k := fun k => by
    induction k with
    | zero => exact Nat.le_refl _
    | succ k ih =>
      rw [show 2 * (k + 1) = 2 * k + 1 + 1 from by omega, ct, ct]
      have : (hm c.p (2 * k)).toNat + (hm c.p (2 * k + 1)).toNat ≤ 1 := by
        unfold hm
        rw [show 2 * k + 1 - 1 = 2 * k from by omega]
        generalize (decide (2 * k = 0) || !c.p (2 * k - 1)) = z
        cases z <;> cases c.p (2 * k) <;> cases c.p (2 * k + 1) <;> simp
      omega
  exact h1 32768
theorem ls_inj {p q : Nat → Bool} (h : ls p 65536 = ls q 65536) : ∀ x, x < 65536 → p x = q x := fun x hx => by
  have e : (UInt16.ofNat x).toNat = x := by rw [UInt16.toNat_ofNat']; omega
  have h1 := ls_mem p 65536 (Nat.le_refl _) (UInt16.ofNat x)
  have h2 := ls_mem q 65536 (Nat.le_refl _) (UInt16.ofNat x)
  rw [h, h2, e] at h1
  rw [Bool.eq_iff_iff]
  exact ⟨fun hp => (h1.2 ⟨hx, hp⟩).2, fun hq => (h1.1 ⟨hx, hq⟩).2⟩
theorem wm_inj {p q : Nat → Bool} (h : wm p = wm q) : ∀ x, x < 65536 → p x = q x := fun x hx => by rw [← wb_wm p x hx, ← wb_wm q x hx, h]
theorem rs_inj {p q : Nat → Bool} (h : rs p 65536 = rs q 65536) : ∀ x, x < 65536 → p x = q x := fun x hx => by rw [← mr_rs p hx, ← mr_rs q hx, h]
theorem flatMap_inj {α : Type} (k : Nat) (f : α → List UInt8) (hk : ∀ x, (f x).length = k) (hf : ∀ x y, f x = f y → x = y) {l m : List α} (hl : l.length = m.length) (h : l.flatMap f = m.flatMap f) : l = m := by
  induction l generalizing m with
  | nil => cases m with
    | nil => rfl
    | cons b m => simp at hl
  | cons a l ih =>
    cases m with
    | nil => simp at hl
    | cons b m =>
      rw [List.flatMap_cons, List.flatMap_cons] at h
      obtain ⟨h1, h2⟩ := List.append_inj h (by rw [hk, hk])
      rw [hf _ _ h1, ih (by simpa using hl) h2]
theorem u16_inj {a b : UInt16} (h : le 2 a.toNat = le 2 b.toNat) : a = b := UInt16.toNat_inj.1 (le_inj (by have := a.toNat_lt; omega) (by have := b.toNat_lt; omega) h)
theorem u64_inj {a b : UInt64} (h : le 8 a.toNat = le 8 b.toNat) : a = b := UInt64.toNat_inj.1 (le_inj (by have := a.toNat_lt; omega) (by have := b.toNat_lt; omega) h)
theorem bdA_inj {l m : List UInt16} (hl : l.length = m.length) (h : bdA l = bdA m) : l = m := flatMap_inj 2 _ (fun x => le_length _ _) (fun x y => u16_inj) hl h
theorem bdW_inj {l m : List UInt64} (hl : l.length = m.length) (h : bdW l = bdW m) : l = m := flatMap_inj 8 _ (fun x => le_length _ _) (fun x y => u64_inj) hl h
theorem bdP_inj {l m : List Rn} (hl : l.length = m.length) (h : bdP l = bdP m) : l = m :=
  flatMap_inj 4 _ (fun x => by rw [List.length_append, le_length, le_length]) (fun x y e => by
    obtain ⟨h1, h2⟩ := List.append_inj e (by rw [le_length, le_length])
    exact Prod.ext (u16_inj h1) (u16_inj h2)) hl h
/-- A container's bytes, and whatever stands behind, tell it, if its kind and how many numbers it has are known. -/
theorem body_inj {c d : Ct} {X Y : List UInt8} (hr : c.r = d.r) (hn : c.n = d.n) (h : c.body ++ X = d.body ++ Y) : (∀ x, x < 65536 → c.p x = d.p x) ∧ X = Y := by
  have hm1 := c.m_le
  have hm2 := d.m_le
  unfold Ct.body at h
  rw [← hr, ← hn] at h
  split at h
  · rw [List.append_assoc, List.append_assoc] at h
    obtain ⟨h1, h2⟩ := List.append_inj h (by rw [le_length, le_length])
    have h3 := le_inj (by omega) (by omega) h1
    have hl : (rs c.p 65536).length = (rs d.p 65536).length := by rw [rs_len, rs_len]; exact h3
    obtain ⟨h4, h5⟩ := List.append_inj h2 (by rw [bdP_len, bdP_len, hl])
    exact ⟨rs_inj (bdP_inj hl h4), h5⟩
  · have hl : (ls c.p 65536).length = (ls d.p 65536).length := by rw [ls_ct, ls_ct]; exact hn
    split at h
    · obtain ⟨h4, h5⟩ := List.append_inj h (by rw [bdA_len, bdA_len, hl])
      exact ⟨ls_inj (bdA_inj hl h4), h5⟩
    · obtain ⟨h4, h5⟩ := List.append_inj h (by rw [bdW_len, bdW_len, wm_length, wm_length])
      exact ⟨wm_inj (bdW_inj (by rw [wm_length, wm_length]) h4), h5⟩
theorem bodies_inj {cs ds : List Ct} (hl : cs.length = ds.length) (hr : ∀ (i : Nat) (c d : Ct), cs[i]? = some c → ds[i]? = some d → c.r = d.r ∧ c.n = d.n) (h : bodies cs = bodies ds) :
    ∀ (i : Nat) (c d : Ct), cs[i]? = some c → ds[i]? = some d → ∀ x, x < 65536 → c.p x = d.p x := by
  induction cs generalizing ds with
  | nil => intro i c d hc; simp at hc
  | cons a cs ih =>
    cases ds with
    | nil => simp at hl
    | cons b ds =>
      unfold bodies at h
      rw [List.flatMap_cons, List.flatMap_cons] at h
      obtain ⟨h1, h2⟩ := hr 0 a b rfl rfl
      obtain ⟨h3, h4⟩ := body_inj h1 h2 h
      intro i c d hc hd
      cases i with
      | zero =>
        simp at hc hd
        subst hc hd
        exact h3
      | succ i => exact ih (by simpa using hl) (fun i c d hc hd => hr (i + 1) c d (by simpa using hc) (by simpa using hd)) h4 i c d (by simpa using hc) (by simpa using hd)
theorem coo_inj {cs ds : List Ct} {X Y : List UInt8} (hc : cs.length ≤ 65536) (hd : ds.length ≤ 65536) (h : coo cs ++ X = coo ds ++ Y) : cs.length = ds.length ∧ anyr cs = anyr ds ∧ (∀ i, fbit cs i = fbit ds i) ∧ X = Y := by
  have pos : ∀ es : List Ct, anyr es = true → 1 ≤ es.length := fun es he => by
    obtain ⟨i, hi, _⟩ := anyr_iff.1 he; omega
  have off : ∀ es : List Ct, anyr es = false → ∀ i, fbit es i = false := fun es he i => by
    cases hf : fbit es i with
    | false => rfl
    | true =>
      have hi : i < es.length := by
        rcases Nat.lt_or_ge i es.length with h | h
        · exact h
        · rw [fbit_off h] at hf; cases hf
      rw [anyr_iff.2 ⟨i, hi, hf⟩] at he; cases he
  have two : ∀ n, le 4 n = le 2 n ++ le 2 (n / 256 ^ 2) := fun n => le_app 2 2 n
  unfold coo at h
  cases ha : anyr cs with
  | false =>
    cases hb : anyr ds with
    | false =>
      rw [ha, hb, if_neg (by simp), if_neg (by simp), List.append_assoc, List.append_assoc] at h
      obtain ⟨_, h⟩ := List.append_inj h (by rw [le_length])
      obtain ⟨h1, h2⟩ := List.append_inj h (by rw [le_length, le_length])
      exact ⟨le_inj (by omega) (by omega) h1, rfl, fun i => by rw [off _ ha, off _ hb], h2⟩
    | true =>
      rw [ha, hb, if_neg (by simp), if_pos rfl, two, List.append_assoc, List.append_assoc, List.append_assoc] at h
      obtain ⟨h, _⟩ := List.append_inj h (by rw [le_length, le_length])
      have := le_inj (by omega) (by omega) h
      omega
  | true =>
    cases hb : anyr ds with
    | false =>
      rw [ha, hb, if_pos rfl, if_neg (by simp), two, List.append_assoc, List.append_assoc, List.append_assoc, List.append_assoc] at h
      obtain ⟨h, _⟩ := List.append_inj h (by rw [le_length, le_length])
      have := le_inj (by omega) (by omega) h
      omega
    | true =>
      rw [ha, hb, if_pos rfl, if_pos rfl, List.append_assoc, List.append_assoc, List.append_assoc, List.append_assoc] at h
      obtain ⟨_, h⟩ := List.append_inj h (by rw [le_length])
      obtain ⟨h1, h2⟩ := List.append_inj h (by rw [le_length, le_length])
      have e1 := pos _ ha
      have e2 := pos _ hb
      have e3 := le_inj (by omega) (by omega) h1
      have e4 : cs.length = ds.length := by omega
      obtain ⟨h3, h4⟩ := List.append_inj h2 (by rw [flg_len, flg_len, e4])
      rw [e4] at h3
      refine ⟨e4, rfl, fun i => ?_, h4⟩
      rcases Nat.lt_or_ge i (8 * ((ds.length + 7) / 8)) with hi | hi
      · exact flg_inj h3 i hi
      · rw [fbit_off (by omega), fbit_off (by omega)]
theorem hdr_inj {cs ds : List Ct} (hl : cs.length = ds.length) (h : hdr cs = hdr ds) : ∀ (i : Nat) (c d : Ct), cs[i]? = some c → ds[i]? = some d → c.key = d.key ∧ c.n - 1 = d.n - 1 := by
  induction cs generalizing ds with
  | nil => intro i c d hc; simp at hc
  | cons a cs ih =>
    cases ds with
    | nil => simp at hl
    | cons b ds =>
      unfold hdr at h
      rw [List.flatMap_cons, List.flatMap_cons] at h
      obtain ⟨h1, h4⟩ := List.append_inj h (by rw [List.length_append, List.length_append, le_length, le_length, le_length, le_length])
      obtain ⟨h1, h2⟩ := List.append_inj h1 (by rw [le_length, le_length])
      intro i c d hc hd
      cases i with
      | zero =>
        simp at hc hd
        subst hc hd
        have := a.n_le
        have := b.n_le
        exact ⟨u16_inj h1, le_inj (by omega) (by omega) h2⟩
      | succ i => exact ih (by simpa using hl) h4 i c d (by simpa using hc) (by simpa using hd)
/-- The bytes of an image tell its containers. -/
theorem img_inj {cs ds : List Ct} (hc : cs.length ≤ 65536) (hd : ds.length ≤ 65536) (oc : ∀ c ∈ cs, c.ok) (od : ∀ c ∈ ds, c.ok) (h : img cs = img ds) :
    cs.length = ds.length ∧ ∀ (i : Nat) (c d : Ct), cs[i]? = some c → ds[i]? = some d → c.same d := by
  unfold img at h
  obtain ⟨hl, ha, hf, h⟩ := coo_inj hc hd h
  obtain ⟨h1, h⟩ := List.append_inj h (by rw [hdr_len, hdr_len, hl])
  obtain ⟨_, h⟩ := List.append_inj h (by rw [ofs_len, ofs_len]; unfold ofsl hofs; rw [hl, ha])
  have hh := hdr_inj hl h1
  have hr : ∀ (i : Nat) (c d : Ct), cs[i]? = some c → ds[i]? = some d → c.r = d.r ∧ c.n = d.n := fun i c d e1 e2 => by
    have p1 := oc c (List.mem_of_getElem? e1)
    have p2 := od d (List.mem_of_getElem? e2)
    unfold Ct.ok at p1 p2
    have := (hh i c d e1 e2).2
    exact ⟨by rw [← fbit_at e1, ← fbit_at e2, hf], by omega⟩
  exact ⟨hl, fun i c d e1 e2 => ⟨(hh i c d e1 e2).1, (hr i c d e1 e2).1, bodies_inj hl hr h i c d e1 e2⟩⟩
theorem img_ext {cs ds : List Ct} (hl : cs.length = ds.length) (h : ∀ (i : Nat) (c d : Ct), cs[i]? = some c → ds[i]? = some d → c.same d) : img cs = img ds := by
  have h0 : cs.map (fun c => (c.key, c.r, c.n, c.body, c.sz)) = ds.map (fun c => (c.key, c.r, c.n, c.body, c.sz)) := by
    refine List.ext_getElem? fun i => ?_
    rw [List.getElem?_map, List.getElem?_map]
    rcases Nat.lt_or_ge i cs.length with hi | hi
    · have e1 := List.getElem?_eq_getElem hi
      have e2 := List.getElem?_eq_getElem (l := ds) (i := i) (by omega)
      obtain ⟨a, b, c⟩ := h i _ _ e1 e2
      rw [e1, e2]
      have n1 : (cs[i]).n = (ds[i]'(by omega)).n := ct_ext c
      have m1 : (cs[i]).m = (ds[i]'(by omega)).m := ct_ext (hm_ext (n := 65536) c)
      have b1 : (cs[i]).body = (ds[i]'(by omega)).body := by unfold Ct.body; rw [n1, m1, b, rs_ext c, ls_ext c, wm_ext c]
      have s1 : (cs[i]).sz = (ds[i]'(by omega)).sz := by unfold Ct.sz; rw [n1, m1, b]
      simp only [Option.map_some, a, b, n1, b1, s1]
    · rw [List.getElem?_eq_none hi, List.getElem?_eq_none (by omega)]
  have e1 : ∀ {β : Type} (g : UInt16 × Bool × Nat × List UInt8 × Nat → β) (es : List Ct), (es.map (fun c => (c.key, c.r, c.n, c.body, c.sz))).map g = es.map fun c => g (c.key, c.r, c.n, c.body, c.sz) := fun g es => by rw [List.map_map]; rfl
  have e2 : ∀ {β : Type} (g : UInt16 × Bool × Nat × List UInt8 × Nat → β), cs.map (fun c => g (c.key, c.r, c.n, c.body, c.sz)) = ds.map fun c => g (c.key, c.r, c.n, c.body, c.sz) := fun g => by rw [← e1, ← e1, h0]
  have r1 : cs.map Ct.r = ds.map Ct.r := e2 fun z => z.2.1
  have s1 : cs.map Ct.sz = ds.map Ct.sz := e2 fun z => z.2.2.2.2
  have a1 : anyr cs = anyr ds := by
    have : ∀ es : List Ct, anyr es = (es.map Ct.r).any id := fun es => by unfold anyr; rw [List.any_map]; rfl
    rw [this, this, r1]
  have f1 : fbit cs = fbit ds := funext fun i => by unfold fbit; rw [← List.getElem?_map, ← List.getElem?_map, r1]
  have o1 : ∀ (es fs : List Ct) (a : Nat), es.map Ct.sz = fs.map Ct.sz → ofl a es = ofl a fs := fun es => by
    induction es with
    | nil => intro fs a e; cases fs with
      | nil => rfl
      | cons _ _ => simp at e
    | cons c es ih => intro fs a e; cases fs with
      | nil => simp at e
      | cons d fs => simp at e; rw [ofl, ofl, e.1, ih fs _ e.2]
  have d1 : hdr cs = hdr ds := by
    unfold hdr
    rw [List.flatMap_def, List.flatMap_def]
    exact congrArg List.flatten (e2 fun z => le 2 z.1.toNat ++ le 2 (z.2.2.1 - 1))
  have b1 : bodies cs = bodies ds := by
    unfold bodies
    rw [List.flatMap_def, List.flatMap_def]
    exact congrArg List.flatten (e2 fun z => z.2.2.2.1)
  have h2 : hofs cs = hofs ds := by unfold hofs; rw [a1, hl]
  have c1 : cool cs = cool ds := by unfold cool; rw [a1, hl]
  have c2 : ahed cs = ahed ds := by unfold ahed ofsl; rw [c1, h2, hl]
  unfold img coo ofs
  rw [a1, f1, hl, d1, b1, h2, c2, o1 cs ds _ s1]
/-- How many bytes it has at most. -/
theorem ahed_le (cs : List Ct) : ahed cs ≤ 12 * cs.length + 12 := by
  unfold ahed cool ofsl
  split <;> split <;> omega
theorem ahed_ge (cs : List Ct) : 8 ≤ ahed cs ∨ (anyr cs = true ∧ 1 ≤ cs.length ∧ 9 ≤ ahed cs) := by
  unfold ahed
  cases h : anyr cs with
  | false => unfold cool; rw [h]; simp; omega
  | true =>
    obtain ⟨i, hi, _⟩ := anyr_iff.1 h
    exact .inr ⟨rfl, by omega, by unfold cool; rw [h]; simp; omega⟩
theorem szs_le (cs : List Ct) (f : Ct → Nat) (h : ∀ c ∈ cs, c.sz ≤ f c) : szs cs ≤ (cs.map f).sum := by
  unfold szs
  induction cs with
  | nil => simp
  | cons c cs ih =>
    have := h c (by simp)
    have := ih fun d hd => h d (by simp [hd])
    simp; omega
theorem sum_const (cs : List Ct) (k : Nat) : (cs.map fun _ => k).sum = k * cs.length := by
  induction cs with
  | nil => simp
  | cons c cs ih => rw [List.map_cons, List.sum_cons, ih, List.length_cons, Nat.mul_add]; omega
theorem sum_mul (cs : List Ct) (k : Nat) (f : Ct → Nat) : (cs.map fun c => k * f c).sum = k * (cs.map f).sum := by
  induction cs with
  | nil => simp
  | cons c cs ih => rw [List.map_cons, List.sum_cons, ih, List.map_cons, List.sum_cons, Nat.mul_add]
end Go.Proofs.YtponcpneflhpfaaGreatDoor
namespace Go.Proofs.YtponcpneflhpfaaGreatDoor
set_option linter.unusedVariables false

def cto (P : Nat → Bool) (k : UInt16) : Ct := ⟨k, blk P k.toNat, decide (ck (blk P k.toNat) = 3)⟩
/-- The containers of a set, canonical ones. -/
def cso (P : Nat → Bool) : List Ct := (ls (nz P) 65536).map (cto P)
def Ct.k (c : Ct) : Nat := if c.r then 3 else if c.n ≤ 4096 then 1 else 2
theorem cto_n (P : Nat → Bool) (k : UInt16) : (cto P k).n = ct (blk P k.toNat) 65536 := rfl
theorem cto_k (P : Nat → Bool) (k : UInt16) : (cto P k).k = ck (blk P k.toNat) := by
  have h := ck_le (blk P k.toNat)
  have h3 : (cto P k).r = decide (ck (blk P k.toNat) = 3) := rfl
  have hn : (cto P k).n = ct (blk P k.toNat) 65536 := rfl
  unfold Ct.k
  rw [h3, hn]
  unfold ck ckn
  by_cases h1 : ct (blk P k.toNat) 65536 ≤ 4096
  · rw [if_pos h1]
    by_cases h2 : 2 + 4 * ct (hm (blk P k.toNat)) 65536 < 2 * ct (blk P k.toNat) 65536
    · rw [if_pos h2]; rfl
    · rw [if_neg h2, if_pos h1]; rfl
  · rw [if_neg h1]
    by_cases h2 : 2 + 4 * ct (hm (blk P k.toNat)) 65536 < 8192
    · rw [if_pos h2]; rfl
    · rw [if_neg h2, if_neg h1]; rfl
theorem Ct.sz_k (c : Ct) : c.sz = szn c.k c.n c.m := by
  unfold Ct.sz Ct.k szn
  cases c.r
  · by_cases h : c.n ≤ 4096
    · simp [h]
    · simp [h]
  · simp
theorem cto_sz (P : Nat → Bool) (k : UInt16) : (cto P k).sz ≤ 8192 ∧ (cto P k).sz ≤ 2 * (cto P k).n := by
  have h := szn_least (cto P k).n (cto P k).m
  have e : (cto P k).sz = szn (ckn (cto P k).n (cto P k).m) (cto P k).n (cto P k).m := by rw [Ct.sz_k, cto_k]; rfl
  rw [e, h]
  split <;> omega
theorem cso_len (P : Nat → Bool) : (cso P).length ≤ 65536 := by unfold cso; rw [List.length_map]; exact ls_len _ _
theorem cso_mem {P : Nat → Bool} {c : Ct} (h : c ∈ cso P) : c = cto P c.key ∧ nz P c.key.toNat = true := by
  obtain ⟨k, hk, rfl⟩ := List.mem_map.1 h
  exact ⟨rfl, ((ls_mem _ _ (Nat.le_refl _) k).1 hk).2⟩
theorem cso_ok {P : Nat → Bool} : ∀ c ∈ cso P, c.ok := fun c h => by
  obtain ⟨e, hn⟩ := cso_mem h
  rw [e]
  show 0 < ct (blk P c.key.toNat) 65536
  exact of_decide_eq_true hn
theorem cso_sum (P : Nat → Bool) : ∀ K, K ≤ 65536 → (((ls (nz P) K).map (cto P)).map Ct.n).sum = ct P (65536 * K)
  | 0, _ => by simp [ls, ct]
  | K + 1, h => by
    have ih := cso_sum P K (by omega)
    have hk : (UInt16.ofNat K).toNat = K := by rw [UInt16.toNat_ofNat']; omega
    rw [ct_next]
    cases hn : nz P K with
    | true =>
      rw [ls_next (nz P) (Nat.le_refl K) (fun j h1 h2 => by omega) hn, List.map_append, List.map_append, List.sum_append, ih]
      simp only [List.map_cons, List.map_nil, List.sum_cons, List.sum_nil, cto_n, hk, Nat.add_zero]
    | false =>
      rw [ls_skip (nz P) (Nat.le_succ K) (fun j h1 h2 => by rw [show j = K from by omega]; exact hn), ih, nz_ct hn, Nat.add_zero]
theorem cso_all (P : Nat → Bool) : ((cso P).map Ct.n).sum = ct P 4294967296 := cso_sum P 65536 (Nat.le_refl _)
theorem cso_szs (P : Nat → Bool) : szs (cso P) ≤ 8192 * (cso P).length ∧ szs (cso P) ≤ 2 * ct P 4294967296 := by
  constructor
  · rw [← sum_const (cso P) 8192]
    exact szs_le _ _ fun c h => by rw [(cso_mem h).1]; exact (cto_sz P _).1
  · rw [← cso_all, ← sum_mul]
    exact szs_le _ _ fun c h => by rw [(cso_mem h).1]; exact (cto_sz P _).2
theorem img_small (P : Nat → Bool) : (img (cso P)).length ≤ (8192 + 16) * (cso P).length + 16 ∧ (img (cso P)).length ≤ 4 * ct P 4294967296 + 16 * (cso P).length + 16 := by
  have h1 := cso_szs P
  have h2 := ahed_le (cso P)
  rw [img_len]
  omega
theorem cso_at {P : Nat → Bool} {i : Nat} {c : Ct} (h : (cso P)[i]? = some c) : (ls (nz P) 65536)[i]? = some c.key ∧ c = cto P c.key := by
  unfold cso at h
  rw [List.getElem?_map] at h
  cases hk : (ls (nz P) 65536)[i]? with
  | none => rw [hk] at h; cases h
  | some k => rw [hk] at h; injection h with h; subst h; exact ⟨rfl, rfl⟩
theorem cso_ext {P Q : Nat → Bool} (h : ∀ x, x < 4294967296 → P x = Q x) : img (cso P) = img (cso Q) := by
  have hb : ∀ k, k < 65536 → ∀ x, x < 65536 → blk P k x = blk Q k x := fun k hk x hx => h _ (by omega)
  have hz : ls (nz P) 65536 = ls (nz Q) 65536 := ls_ext fun k hk => by unfold nz; rw [ct_ext (hb k hk)]
  refine img_ext (by unfold cso; rw [List.length_map, List.length_map, hz]) fun i c d hc hd => ?_
  obtain ⟨h1, e1⟩ := cso_at hc
  obtain ⟨h2, e2⟩ := cso_at hd
  rw [hz, h2] at h1
  injection h1 with h1
  have hk := c.key.toNat_lt
  refine ⟨h1.symm, ?_, ?_⟩
  · rw [e1, e2, h1]
    show decide _ = decide _
    rw [ck_ext (hb c.key.toNat (by omega))]
  · rw [e1, e2, h1]
    exact hb _ (by omega)
theorem cso_inj {P Q : Nat → Bool} (h : img (cso P) = img (cso Q)) : ∀ x, x < 4294967296 → P x = Q x := by
  obtain ⟨hl, hs⟩ := img_inj (cso_len P) (cso_len Q) cso_ok cso_ok h
  have hk : ls (nz P) 65536 = ls (nz Q) 65536 := by
    refine List.ext_getElem? fun i => ?_
    have e1 : (cso P).map Ct.key = ls (nz P) 65536 := by unfold cso; rw [List.map_map]; exact List.map_id _
    have e2 : (cso Q).map Ct.key = ls (nz Q) 65536 := by unfold cso; rw [List.map_map]; exact List.map_id _
    rw [← e1, ← e2, List.getElem?_map, List.getElem?_map]
    rcases Nat.lt_or_ge i (cso P).length with hi | hi
    · have h1 := List.getElem?_eq_getElem hi
      have h2 := List.getElem?_eq_getElem (l := cso Q) (i := i) (by omega)
      rw [h1, h2, Option.map_some, Option.map_some, (hs i _ _ h1 h2).1]
    · rw [List.getElem?_eq_none hi, List.getElem?_eq_none (by omega)]
  have hn := ls_inj hk
  refine same_blk fun k hk' x hx => ?_
  cases hz : nz P k with
  | false =>
    have hq : nz Q k = false := by rw [← hn k hk']; exact hz
    exact (nz_not.1 hz x hx).trans (nz_not.1 hq x hx).symm
  | true =>
    have hm : UInt16.ofNat k ∈ ls (nz P) 65536 := (ls_mem _ _ (Nat.le_refl _) _).2 (by rw [UInt16.toNat_ofNat', Nat.mod_eq_of_lt (by omega)]; exact ⟨hk', hz⟩)
    obtain ⟨i, hi, he⟩ := List.mem_iff_getElem.1 hm
    have h1 : (cso P)[i]? = some (cto P (UInt16.ofNat k)) := by unfold cso; rw [List.getElem?_map, List.getElem?_eq_getElem hi, he]; rfl
    have h2 : (cso Q)[i]? = some (cto Q (UInt16.ofNat k)) := by unfold cso; rw [List.getElem?_map, ← hk, List.getElem?_eq_getElem hi, he]; rfl
    have h3 := (hs i _ _ h1 h2).2.2 x hx
    have e : (UInt16.ofNat k).toNat = k := by rw [UInt16.toNat_ofNat']; omega
    have h4 : blk P (UInt16.ofNat k).toNat x = blk Q (UInt16.ofNat k).toNat x := h3
    rwa [e] at h4
end Go.Proofs.YtponcpneflhpfaaGreatDoor
namespace Go.Proofs.YtponcpneflhpfaaGreatDoor
open Go.RowKit
set_option linter.unusedVariables false

section
variable {α : Type} (k : ElemV α)
theorem rowv_rep (n : Nat) (z : α) : (madeCells (k.cs z).toArray (n * k.n)).toList = k.row (List.replicate n z) := by
  apply List.ext_getElem?
  intro j
  have hsz : (k.cs z).toArray.size = k.n := by rw [List.size_toArray, k.len]
  by_cases hj : j < n * k.n
  · have hj2 : j / k.n < n := Nat.div_lt_of_lt_mul (by rw [Nat.mul_comm]; exact hj)
    have hmod : j % k.n < k.n := Nat.mod_lt _ k.pos
    have e1 : (List.replicate n z)[j / k.n]? = some z := by rw [List.getElem?_replicate, if_pos hj2]
    have e2 := rowv_at k _ _ _ e1 (j % k.n) hmod
    rw [Nat.div_add_mod] at e2
    rw [e2]
    have hlt : j % k.n < (k.cs z).length := by rw [k.len]; exact hmod
    rw [List.getElem?_eq_getElem hlt]
    simp [madeCells, hj, k.len]
    rw [List.getElem?_eq_getElem hlt]
    rfl
  · rw [List.getElem?_eq_none (by simp [madeCells]; omega), List.getElem?_eq_none (by rw [rowv_len, List.length_replicate]; omega)]
theorem wpList_gfullv {P : Program} (w : World) {ops : Array Oper} {rest : List Oper} {o : Oper} {a : Act} {Q : Exit → Act → World → Prop} (hgd : o.guard = none) (x c : Operand) (t : TypeId) (ho : o.op = Op.makeSlice t x c)
    (ht : P.underlying t = some (.slice k.E)) (hinf : (P.info? k.E).map (fun i => (i.zero, i.size, i.bytes)) = some (some (k.val k.zero), k.n, k.bytes))
    (kl kc : IntKind) (L C : Int) (n : Nat) (hx : a.eval x = .int kl L) (hc : a.eval c = .int kc C) (hL : L = (n : Int)) (hC : C = (n : Int)) (hn : n ≤ 1000000000)
    (h : ∀ w', GwV k w' w.heap.size (.slice (some ⟨w.heap.size, 0, none⟩) n n) (List.replicate n k.zero) → w.grownBy w' none → wpList P ops Q rest (a.put o.dst (.slice (some ⟨w.heap.size, 0, none⟩) n n)) w') : wpList P ops Q (o :: rest) a w := by
  obtain ⟨i, hi, hz, hsz, hby⟩ := info_parts hinf
  have hs := k.small
  have hbb : k.bytes * n ≤ 1000 * 1000000000 := Nat.mul_le_mul hs hn
  refine wpList_make_full w hgd x c t ho w.heap.size k.E i (k.val k.zero) k.n ht hi hz hsz kl kc L C n hx hc hL hC (by rw [hby]; omega) (by unfold maxLen; omega) (Nat.le_refl _) fun w' h1 h2 => h w' ?_ h2
  unfold GwV
  rw [List.length_replicate, ← rowv_rep]
  exact h1
end
/-- Containers. -/
def eC : ElemV Bd := { E := 65, n := 4, cs := fun b => [.int .u8 b.κ, .slice b.A b.n b.c, .slice b.A2 b.n2 b.c2, .slice b.A3 b.n3 b.c3], zero := zB, bytes := 80, len := fun _ => rfl, pos := by omega, one := fun e u hu => by simp at hu; rcases hu with rfl | rfl | rfl | rfl <;> rfl, small := by omega }
theorem infC : (Tryz.prog.info? eC.E).map (fun i => (i.zero, i.size, i.bytes)) = some (some (eC.val eC.zero), eC.n, eC.bytes) := by kernel_rfl
theorem sliC : Tryz.prog.underlying 61 = some (.slice eC.E) := Tryz.underlying61
theorem rowc_set (l : List Bd) (i : Nat) (y : Bd) (hi : i < l.length) :
    ((((eC.row l).set (i * 4) (.int .u8 y.κ)).set (i * 4 + 1) (.slice y.A y.n y.c)).set (i * 4 + 2) (.slice y.A2 y.n2 y.c2)).set (i * 4 + 3) (.slice y.A3 y.n3 y.c3) = eC.row (l.set i y) := by
  induction l generalizing i with
  | nil => simp at hi
  | cons x l ih =>
    cases i with
    | zero => rfl
    | succ i =>
      have e : (i + 1) * 4 = i * 4 + 1 + 1 + 1 + 1 := by omega
      have := ih i (by simpa using hi)
      rw [List.set_cons_succ]
      show _ = eC.cs x ++ eC.row (l.set i y)
      rw [← this, e]
      rfl
theorem GwV.stored4 {w : World} {base b c n : Nat} {l : List Bd} (h : GwV eC w base (.slice (some ⟨b, 0, none⟩) n c) l) (i : Nat) (y : Bd) (hi : i < l.length) :
    GwV eC ((((w.setCell ⟨b, i * 4, none⟩ (.int .u8 y.κ)).setCell ⟨b, i * 4 + 1, none⟩ (.slice y.A y.n y.c)).setCell ⟨b, i * 4 + 2, none⟩ (.slice y.A2 y.n2 y.c2)).setCell ⟨b, i * 4 + 3, none⟩ (.slice y.A3 y.n3 y.c3)) base (.slice (some ⟨b, 0, none⟩) n c) (l.set i y) := by
  have hn : n = l.length := by
    rcases h.2 with ⟨e, _⟩ | ⟨g, cap, cur, e, _⟩
    · cases e
    · injection e
  subst hn
  have h1 := (World.ownsRow.stored (World.ownsRow.stored (World.ownsRow.stored (World.ownsRow.stored h (i * 4) (.int .u8 y.κ)).1 (i * 4 + 1) (.slice y.A y.n y.c)).1 (i * 4 + 2) (.slice y.A2 y.n2 y.c2)).1 (i * 4 + 3) (.slice y.A3 y.n3 y.c3)).1
  unfold GwV
  rw [← rowc_set l i y hi, List.length_set]
  exact h1
theorem gsc_at {w : World} {lo hi : Nat} {A : Option Addr} {n c : Nat} {l : List Bd} (h : GsV eC w lo hi (.slice A n c) l) {k : Nat} (hk : k < l.length) :
    ∃ b off x, A = some ⟨b, off, none⟩ ∧ n = l.length ∧ b < hi ∧ l[k]? = some x ∧ w.cell? ⟨b, off + k * 4, none⟩ = some (.int .u8 x.κ) ∧
      w.cell? ⟨b, off + k * 4 + 1, none⟩ = some (.slice x.A x.n x.c) ∧ w.cell? ⟨b, off + k * 4 + 2, none⟩ = some (.slice x.A2 x.n2 x.c2) ∧ w.cell? ⟨b, off + k * 4 + 3, none⟩ = some (.slice x.A3 x.n3 x.c3) := by
  obtain ⟨b, off, c', e, h1, h2, h3, h4, hc⟩ := h.form (by rintro rfl; simp at hk)
  injection e with e1 e2 e3
  subst e1 e2 e3
  have hx := List.getElem?_eq_getElem hk
  have hf := fun (i : Nat) (u : Value) (hu : (eC.cs l[k])[i]? = some u) => hc k _ hx i u hu
  have e4 : ∀ i, off + (eC.n * k + i) = off + k * 4 + i := fun i => by show off + (4 * k + i) = _; omega
  refine ⟨b, off, l[k], rfl, rfl, h4, hx, ?_, ?_, ?_, ?_⟩
  · have := hf 0 _ rfl; rw [e4] at this; exact this
  · have := hf 1 _ rfl; rw [e4] at this; exact this
  · have := hf 2 _ rfl; rw [e4] at this; exact this
  · have := hf 3 _ rfl; rw [e4] at this; exact this
/-- A value is a slice of the containers cs. -/
structure Cl (N : Nat → Prop) (w : World) (v : Value) (bs : List Bd) (cs : List Ct) : Prop where
  sl : GsV eC w 0 w.heap.size v bs
  len : bs.length = cs.length
  cn : ∀ (i : Nat) (b : Bd) (c : Ct), bs[i]? = some b → cs[i]? = some c → Cn N w b.val c.p c.k
theorem Cl.step {N : Nat → Prop} {w w' : World} {v : Value} {bs : List Bd} {cs : List Ct} (h : Cl N w v bs cs) (b : Below w.heap.size w w') : Cl N w' v bs cs :=
  ⟨h.sl.step b, h.len, fun i x c h1 h2 => (h.cn i x c h1 h2).step b⟩
theorem cso_dir {N : Nat → Prop} {w : World} {P : Nat → Bool} {es : List En} (h : Dir N w P 0 65536 es) : cso P = es.map fun e => cto P e.key := by
  unfold cso
  rw [← h.keys (Nat.le_refl _), List.map_map]
  rfl
theorem cn_dir {N : Nat → Prop} {w : World} {P : Nat → Bool} {es : List En} (h : Dir N w P 0 65536 es) {i : Nat} {e : En} (hi : es[i]? = some e) : (cso P)[i]? = some (cto P e.key) ∧ Cn N w e.b.val (cto P e.key).p (cto P e.key).k := by
  rw [cso_dir h, List.getElem?_map, hi]
  refine ⟨rfl, ?_⟩
  rw [cto_k]
  exact (h.mem e (List.mem_of_getElem? hi)).2.2.2

set_option maxHeartbeats 4000000 in
theorem at_yes {N : Nat → Prop} (v : Value) (P : Nat → Bool) (i : Nat) (w : World) (hN : ∀ b, N b → b < w.heap.size) (h : St N w v P) (hi : i < (cso P).length) :
    Calls Tryz.prog 44 #[v, .int .i64 i] w fun e w' => ∃ (x : Bd) (c : Ct), e = .returned (.tuple #[.agg #[.int .u8 x.κ, .slice x.A x.n x.c, .slice x.A2 x.n2 x.c2, .slice x.A3 x.n3 x.c3], .bool true]) ∧ (cso P)[i]? = some c ∧ Cn N w' x.val c.p c.k ∧ Below w.heap.size w w' := by
  have r0 := Row.new w 65 #[.int .u8 0, .slice none 0 0, .slice none 0 0, .slice none 0 0]
  have b0 := bx w (.cells #[.int .u8 0, .slice none 0 0, .slice none 0 0, .slice none 0 0] 65)
  have H := Lib.hid (h.step b0)
  obtain ⟨n, hn⟩ : ∃ n, n = (cso P).length := ⟨_, rfl⟩
  have hni : i < n := by omega
  have HN := Lib.hid hn
  have NB : Hid (∀ b, N b → b ≠ w.heap.size) := Lib.hid fun b hb e => Nat.lt_irrefl _ (e ▸ hN b hb)
  clear h hn hi hN
  go_enter Tryz.func44, Tryz.ntmps44
  go_wp2_with fail
  generalize w.alloc (.cells #[.int .u8 0, .slice none 0 0, .slice none 0 0, .slice none 0 0] 65) = W0 at *
  have RR := Lib.hid r0
  have BB := Lib.hid b0
  clear r0 b0
  refine (entries_c v P _ H.out).mono ?_
  rintro e w0 ⟨A, m, c, es, rfl, hz, g, d⟩
  have hz := hz.symm
  subst hz
  have hm : m = es.length := by obtain ⟨_, _, e, _⟩ := g; injection e
  subst hm
  have hl : es.length = n := by rw [HN.out, cso_dir d, List.length_map]
  obtain ⟨b, off, e, e1, -, hb, hdr, hg, c0, c1, c2, c3, c4⟩ := gsv_at g (k := i) (by omega)
  subst e1
  have HD := Lib.hid (cn_dir d hg)
  have h1 : (i : Int) < es.length := by omega
  have hlen : (es.length : Int) ≤ 65536 := by have := d.len; omega
  have d0 : W0.cell? ⟨w.heap.size, 0, none⟩ = some (.int .u8 0) := RR.out.cell 0
  have d1 : W0.cell? ⟨w.heap.size, 1, none⟩ = some (.slice none 0 0) := RR.out.cell 1
  have d2 : W0.cell? ⟨w.heap.size, 2, none⟩ = some (.slice none 0 0) := RR.out.cell 2
  have d3 : W0.cell? ⟨w.heap.size, 3, none⟩ = some (.slice none 0 0) := RR.out.cell 3
  have e0 := RR.out.frozen 0
  have e1 := RR.out.frozen 1
  have e2 := RR.out.frozen 2
  have e3 := RR.out.frozen 3
  have S4 := set4 (a' := .int .u8 e.b.κ) (b' := .slice e.b.A e.b.n e.b.c) (c' := .slice e.b.A2 e.b.n2 e.b.c2) (d' := .slice e.b.A3 e.b.n3 e.b.c3) RR.out
  have B5 := Lib.hid (BB.out.grown S4.2 BB.out.size (fun j e => by injection e with e; subst e; omega))
  have HS := Lib.hid S4
  clear g d hg hdr hl HN S4
  go_wp2
  have hk := HD.out.2.keep HS.out.2.size (fun q hq hlt => World.cell?_of_block (HS.out.2.block _ hlt (fun e => by injection e with e; exact NB.out _ hq e)))
  exact bodyPost_ret (ret_row2 rfl rfl rfl HS.out.1) rfl ⟨e.b, _, rfl, HD.out.1, hk, B5.out⟩
end Go.Proofs.YtponcpneflhpfaaGreatDoor
