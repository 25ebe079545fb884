/- Plain mathematics: pieces and numbers, part by part of one key. No Go in sight. -/
import Derived.Test.YtcmifbjeabkihabGreatDoorMa1
/- Plain mathematics: spans of numbers below 2^32: right ones, joined, cut where a key ends. No Go in sight. -/
namespace Go.Proofs.YtcmifbjeabkihabGreatDoor
set_option linter.unusedVariables false

/-- A span: from a number on, below another one. -/
abbrev Sn := UInt64 × UInt64
def ins (s : Sn) (x : Nat) : Bool := decide (s.1.toNat ≤ x) && decide (x < s.2.toNat)
def sp (l : List Sn) (x : Nat) : Bool := l.any fun s => ins s x
/-- Spans that rise, of which none touches the next one. -/
def mys : Nat → List Sn → Prop
  | _, [] => True
  | n, s :: l => n ≤ s.1.toNat ∧ s.1.toNat < s.2.toNat ∧ s.2.toNat ≤ 4294967296 ∧ mys (s.2.toNat + 1) l
theorem ins_iff (s : Sn) (x : Nat) : ins s x = true ↔ s.1.toNat ≤ x ∧ x < s.2.toNat := by simp [ins]
theorem ins_not (s : Sn) (x : Nat) : ins s x = false ↔ ¬ (s.1.toNat ≤ x ∧ x < s.2.toNat) := by
  rw [← ins_iff]; cases ins s x <;> simp
theorem sp_cons (s : Sn) (l : List Sn) (x : Nat) : sp (s :: l) x = (ins s x || sp l x) := by simp [sp]
theorem sp_app (l m : List Sn) (x : Nat) : sp (l ++ m) x = (sp l x || sp m x) := by simp [sp]
theorem sp_nil (x : Nat) : sp [] x = false := rfl
theorem sp_iff (l : List Sn) (x : Nat) : sp l x = true ↔ ∃ s ∈ l, s.1.toNat ≤ x ∧ x < s.2.toNat := by
  simp [sp, ins]
theorem u64_ext' {a b : UInt64} (h : a.toNat = b.toNat) : a = b := UInt64.toNat_inj.1 h
theorem mys_mono {n m : Nat} {l : List Sn} (h : n ≤ m) (hm : mys m l) : mys n l := by
  cases l with
  | nil => trivial
  | cons s l => exact ⟨Nat.le_trans h hm.1, hm.2⟩
theorem mys_ge {n : Nat} {l : List Sn} (h : mys n l) {x : Nat} (hx : sp l x = true) : n ≤ x ∧ x < 4294967296 := by
  induction l generalizing n with
  | nil => simp [sp] at hx
  | cons s l ih =>
    obtain ⟨h1, h2, h3, h4⟩ := h
    rw [sp_cons, Bool.or_eq_true] at hx
    rcases hx with hx | hx
    · rw [ins_iff] at hx; omega
    · have := ih h4 hx; omega
theorem mys_no {n : Nat} {l : List Sn} (h : mys n l) {x : Nat} (hx : x < n) : sp l x = false := by
  cases e : sp l x with
  | false => rfl
  | true => have := mys_ge h e; omega
theorem mys_inj {n m : Nat} {a b : List Sn} (ha : mys n a) (hb : mys m b) (h : ∀ x, x < 4294967296 → sp a x = sp b x) : a = b := by
  induction a generalizing n m b with
  | nil =>
    cases b with
    | nil => rfl
    | cons t r =>
      obtain ⟨h1, h2, h3, h4⟩ := hb
      have := h t.1.toNat (by omega)
      rw [sp_cons, (ins_iff t _).2 ⟨Nat.le_refl _, h2⟩] at this
      simp [sp] at this
  | cons s l ih =>
    obtain ⟨a1, a2, a3, a4⟩ := ha
    cases b with
    | nil =>
      have := h s.1.toNat (by omega)
      rw [sp_cons, (ins_iff s _).2 ⟨Nat.le_refl _, a2⟩] at this
      simp [sp] at this
    | cons t r =>
      obtain ⟨b1, b2, b3, b4⟩ := hb
      have e1 : s.1.toNat = t.1.toNat := by
        have g1 : t.1.toNat ≤ s.1.toNat := by
          have := h s.1.toNat (by omega)
          rw [sp_cons, (ins_iff s _).2 ⟨Nat.le_refl _, a2⟩, Bool.true_or] at this
          have hb' : mys t.1.toNat (t :: r) := ⟨Nat.le_refl _, b2, b3, b4⟩
          exact (mys_ge hb' this.symm).1
        have g2 : s.1.toNat ≤ t.1.toNat := by
          have := h t.1.toNat (by omega)
          rw [sp_cons t, (ins_iff t _).2 ⟨Nat.le_refl _, b2⟩, Bool.true_or] at this
          have ha' : mys s.1.toNat (s :: l) := ⟨Nat.le_refl _, a2, a3, a4⟩
          exact (mys_ge ha' this).1
        omega
      have e2 : s.2.toNat = t.2.toNat := by
        rcases Nat.lt_trichotomy s.2.toNat t.2.toNat with hlt | he | hlt
        · exfalso
          have := h s.2.toNat (by omega)
          rw [sp_cons, sp_cons, (ins_iff t _).2 ⟨by omega, hlt⟩, (ins_not s _).2 (by omega), mys_no a4 (by omega)] at this
          simp at this
        · exact he
        · exfalso
          have := h t.2.toNat (by omega)
          rw [sp_cons, sp_cons, (ins_iff s _).2 ⟨by omega, hlt⟩, (ins_not t _).2 (by omega), mys_no b4 (by omega)] at this
          simp at this
      have e : s = t := Prod.ext (u64_ext' e1) (u64_ext' e2)
      subst e
      congr 1
      refine ih a4 b4 fun x hx => ?_
      by_cases hs : x < s.2.toNat + 1
      · rw [mys_no a4 hs, mys_no b4 hs]
      · have := h x hx
        rwa [sp_cons, sp_cons, (ins_not s x).2 (by omega), Bool.false_or, Bool.false_or] at this
theorem mys_snoc {n : Nat} {l : List Sn} {r : Sn} : mys n (l ++ [r]) ↔ mys n l ∧ (∀ s ∈ l, s.2.toNat + 1 ≤ r.1.toNat) ∧ n ≤ r.1.toNat ∧ r.1.toNat < r.2.toNat ∧ r.2.toNat ≤ 4294967296 := by
  induction l generalizing n with
  | nil => simp [mys]
  | cons s l ih =>
    rw [List.cons_append]
    simp only [mys, ih, List.mem_cons, forall_eq_or_imp]
    constructor
    · rintro ⟨h1, h2, h3, h4, h5, h6, h7, h8⟩
      exact ⟨⟨h1, h2, h3, h4⟩, ⟨h6, h5⟩, by omega, h7, h8⟩
    · rintro ⟨⟨h1, h2, h3, h4⟩, ⟨h6, h5⟩, h9, h7, h8⟩
      exact ⟨h1, h2, h3, h4, h5, h6, h7, h8⟩

/-- A span put behind others, or over the last one, if it touches it. -/
def wsp (l : List Sn) (s : Sn) : List Sn :=
  match l.getLast? with
  | none => [s]
  | some r => if s.1.toNat ≤ r.2.toNat then l.dropLast ++ [(r.1, if r.2.toNat < s.2.toNat then s.2 else r.2)] else l ++ [s]
theorem wsp_nil (s : Sn) : wsp [] s = [s] := rfl
theorem wsp_in (l : List Sn) (r s : Sn) (h : s.1.toNat ≤ r.2.toNat) : wsp (l ++ [r]) s = l ++ [(r.1, if r.2.toNat < s.2.toNat then s.2 else r.2)] := by
  unfold wsp; rw [List.getLast?_concat]; simp [h]
theorem wsp_out (l : List Sn) (r s : Sn) (h : ¬ s.1.toNat ≤ r.2.toNat) : wsp (l ++ [r]) s = l ++ [r] ++ [s] := by
  unfold wsp; rw [List.getLast?_concat]; simp [h]
theorem wsp_len (l : List Sn) (s : Sn) : (wsp l s).length ≤ l.length + 1 := by
  rcases List.eq_nil_or_concat l with rfl | ⟨l', r, rfl⟩
  · simp [wsp]
  · rw [List.concat_eq_append]
    by_cases h : s.1.toNat ≤ r.2.toNat
    · rw [wsp_in _ _ _ h]; simp
    · rw [wsp_out _ _ _ h]; simp
theorem snoc_cases {α : Type} (l : List α) : l = [] ∨ ∃ a r, l = a ++ [r] := by
  rcases List.eq_nil_or_concat l with h | ⟨a, r, h⟩
  · exact .inl h
  · exact .inr ⟨a, r, by rw [h, List.concat_eq_append]⟩
theorem wsp_right {l : List Sn} {s : Sn} (hl : mys 0 l) (hs : ∀ r ∈ l, r.1.toNat ≤ s.1.toNat) (h1 : s.1.toNat < s.2.toNat) (h2 : s.2.toNat ≤ 4294967296) :
    mys 0 (wsp l s) ∧ (∀ x, sp (wsp l s) x = (sp l x || ins s x)) ∧ ∀ r ∈ wsp l s, r.1.toNat ≤ s.1.toNat := by
  rcases snoc_cases l with rfl | ⟨a, r, rfl⟩
  · rw [wsp_nil]
    exact ⟨⟨Nat.zero_le _, h1, h2, trivial⟩, fun x => by rw [sp_cons, sp_nil, Bool.or_false, Bool.false_or], fun r hr => by simp at hr; subst hr; exact Nat.le_refl _⟩
  · obtain ⟨g1, g2, g3, g4, g5⟩ := mys_snoc.1 hl
    have hr := hs r (by simp)
    by_cases h : s.1.toNat ≤ r.2.toNat
    · rw [wsp_in _ _ _ h]
      refine ⟨mys_snoc.2 ⟨g1, g2, g3, ?_, ?_⟩, fun x => ?_, fun q hq => ?_⟩
      · show r.1.toNat < (if _ then _ else _ : UInt64).toNat
        split <;> omega
      · show (if _ then _ else _ : UInt64).toNat ≤ _
        split <;> omega
      · rw [sp_app, sp_app, Bool.or_assoc]
        congr 1
        rw [sp_cons, sp_cons, sp_nil, Bool.or_false, Bool.or_false, Bool.eq_iff_iff, Bool.or_eq_true, ins_iff, ins_iff, ins_iff]
        show r.1.toNat ≤ x ∧ x < (if _ then _ else _ : UInt64).toNat ↔ _
        split <;> omega
      · rw [List.mem_append] at hq
        rcases hq with hq | hq
        · exact hs q (by simp [hq])
        · simp at hq; subst hq; exact hr
    · rw [wsp_out _ _ _ h]
      refine ⟨mys_snoc.2 ⟨hl, fun q hq => ?_, Nat.zero_le _, h1, h2⟩, fun x => ?_, fun q hq => ?_⟩
      · rw [List.mem_append] at hq
        rcases hq with hq | hq
        · have := g2 q hq; omega
        · simp at hq; subst hq; omega
      · rw [sp_app _ [s], sp_cons, sp_nil, Bool.or_false]
      · rw [List.mem_append] at hq
        rcases hq with hq | hq
        · exact hs q hq
        · simp at hq; subst hq; exact Nat.le_refl _

/-- Spans that rise, joined: one more. -/
def clip (s : Sn) : Sn := (s.1, if s.2.toNat < 4294967296 then s.2 else 4294967296)
def jst (l : List Sn) (s : Sn) : List Sn := if s.1.toNat < (clip s).2.toNat then wsp l (clip s) else l
def jn (l : List Sn) : List Sn := l.foldl jst []
theorem clip_hi (s : Sn) : (clip s).2.toNat = min s.2.toNat 4294967296 := by
  unfold clip
  show (if _ then _ else _ : UInt64).toNat = _
  split
  · omega
  · show (4294967296 : UInt64).toNat = _
    have : (4294967296 : UInt64).toNat = 4294967296 := rfl
    omega
theorem jst_len (l : List Sn) (s : Sn) : (jst l s).length ≤ l.length + 1 := by
  unfold jst; split
  · exact wsp_len _ _
  · omega
theorem foldl_jst_len (l : List Sn) : ∀ acc : List Sn, (l.foldl jst acc).length ≤ acc.length + l.length := by
  induction l with
  | nil => intro acc; simp
  | cons s l ih => intro acc; rw [List.foldl_cons]; have := ih (jst acc s); have := jst_len acc s; simp only [List.length_cons]; omega
theorem jn_len (l : List Sn) : (jn l).length ≤ l.length := by have := foldl_jst_len l []; simpa [jn] using this
theorem jn_snoc (l : List Sn) (s : Sn) : jn (l ++ [s]) = jst (jn l) s := by unfold jn; rw [List.foldl_append]; rfl
theorem jst_right {l : List Sn} {s : Sn} (hl : mys 0 l) (hs : ∀ r ∈ l, r.1.toNat ≤ s.1.toNat) :
    mys 0 (jst l s) ∧ (∀ x, sp (jst l s) x = (sp l x || (decide (x < 4294967296) && ins s x))) ∧ ∀ r ∈ jst l s, r.1.toNat ≤ s.1.toNat := by
  have hc := clip_hi s
  have e : ∀ x, ins (clip s) x = (decide (x < 4294967296) && ins s x) := fun x => by
    rw [Bool.eq_iff_iff, Bool.and_eq_true, ins_iff, ins_iff, hc, decide_eq_true_eq]
    show s.1.toNat ≤ x ∧ _ ↔ _
    omega
  unfold jst
  split
  · rename_i h
    obtain ⟨a, b, c⟩ := wsp_right hl (s := clip s) hs h (by rw [hc]; omega)
    exact ⟨a, fun x => by rw [b, e], c⟩
  · rename_i h
    refine ⟨hl, fun x => ?_, hs⟩
    rw [← e, (ins_not _ _).2 (by show ¬ (s.1.toNat ≤ x ∧ _); omega), Bool.or_false]
theorem jn_right (l : List Sn) (h : l.Pairwise fun s t => s.1.toNat ≤ t.1.toNat) :
    mys 0 (jn l) ∧ (∀ x, sp (jn l) x = (decide (x < 4294967296) && sp l x)) ∧ ∀ r ∈ jn l, ∃ s ∈ l, r.1.toNat ≤ s.1.toNat := by
  have hrev : ∀ n, n ≤ l.length → mys 0 (jn (l.take n)) ∧ (∀ x, sp (jn (l.take n)) x = (decide (x < 4294967296) && sp (l.take n) x)) ∧ ∀ r ∈ jn (l.take n), ∃ s ∈ l.take n, r.1.toNat ≤ s.1.toNat := by
    intro n
    induction n with
    | zero => intro _; simp [jn, mys, sp]
    | succ n ih =>
      intro hn
      obtain ⟨a, b, c⟩ := ih (by omega)
      have e : l.take (n + 1) = l.take n ++ [l[n]] := by rw [List.take_succ_eq_append_getElem (by omega)]
      have hs : ∀ r ∈ jn (l.take n), r.1.toNat ≤ l[n].1.toNat := fun r hr => by
        obtain ⟨s, hs, hle⟩ := c r hr
        have hp : (l.take n ++ [l[n]]).Pairwise fun s t => s.1.toNat ≤ t.1.toNat := by rw [← e]; exact h.sublist (List.take_sublist _ _)
        exact Nat.le_trans hle ((List.pairwise_append.1 hp).2.2 s hs _ (by simp))
      obtain ⟨a', b', c'⟩ := jst_right a (s := l[n]) hs
      rw [e, jn_snoc]
      refine ⟨a', fun x => ?_, fun r hr => ⟨l[n], List.mem_append_right _ (List.mem_singleton.2 rfl), c' r hr⟩⟩
      rw [b', b, sp_app, sp_cons, sp_nil, Bool.or_false, Bool.and_or_distrib_left]
  have := hrev l.length (Nat.le_refl _)
  rwa [List.take_length] at this

/-- A span cut where a key ends. -/
def cut (lo hi : Nat) : List Sn :=
  if h : lo < hi then (UInt64.ofNat lo, UInt64.ofNat (min hi (lo - lo % 65536 + 65536))) :: cut (min hi (lo - lo % 65536 + 65536)) hi else []
termination_by hi - lo
decreasing_by omega
def pcs (l : List Sn) : List Sn := l.flatMap fun s => cut s.1.toNat s.2.toNat
theorem cut_end {lo hi : Nat} (h : ¬ lo < hi) : cut lo hi = [] := by rw [cut, dif_neg h]
theorem cut_more {lo hi : Nat} (h : lo < hi) : cut lo hi = (UInt64.ofNat lo, UInt64.ofNat (min hi (lo - lo % 65536 + 65536))) :: cut (min hi (lo - lo % 65536 + 65536)) hi := by
  conv => lhs; rw [cut]
  rw [dif_pos h]
/-- Where the next piece may begin. -/
def nxq (e : Nat) : Nat := if e % 65536 = 0 then e else e + 1
/-- Pieces: they rise, each within one key, and none touches the next one but where a key ends. -/
def myq : Nat → List Sn → Prop
  | _, [] => True
  | n, s :: l => n ≤ s.1.toNat ∧ s.1.toNat < s.2.toNat ∧ s.2.toNat ≤ s.1.toNat - s.1.toNat % 65536 + 65536 ∧ s.2.toNat ≤ 4294967296 ∧ myq (nxq s.2.toNat) l
theorem nxq_ge (e : Nat) : e ≤ nxq e ∧ nxq e ≤ e + 1 := by unfold nxq; split <;> omega
theorem myq_mono {n m : Nat} {l : List Sn} (h : n ≤ m) (hm : myq m l) : myq n l := by
  cases l with
  | nil => trivial
  | cons s l => exact ⟨Nat.le_trans h hm.1, hm.2⟩
theorem myq_app {n m : Nat} {a b : List Sn} (ha : myq n a) (hnm : n ≤ m) (hab : ∀ s ∈ a, nxq s.2.toNat ≤ m) (hb : myq m b) : myq n (a ++ b) := by
  induction a generalizing n with
  | nil => exact myq_mono hnm hb
  | cons s l ih =>
    obtain ⟨h1, h2, h3, h4, h5⟩ := ha
    exact ⟨h1, h2, h3, h4, ih h5 (hab s (by simp)) (fun t ht => hab t (by simp [ht]))⟩
theorem cut_spec (hi : Nat) (hh : hi ≤ 4294967296) : ∀ (d lo : Nat), hi - lo ≤ d → lo ≤ hi →
    myq lo (cut lo hi) ∧ (∀ x, sp (cut lo hi) x = (decide (lo ≤ x) && decide (x < hi))) ∧ (∀ t ∈ cut lo hi, t.2.toNat ≤ hi) ∧ (cut lo hi).length ≤ (hi / 65536 - lo / 65536) + (if lo < hi then 1 else 0) := by
  intro d
  induction d with
  | zero =>
    intro lo h1 h2
    rw [cut_end (by omega)]
    exact ⟨trivial, fun x => by rw [sp_nil, Eq.comm, Bool.and_eq_false_iff, decide_eq_false_iff_not, decide_eq_false_iff_not]; omega, fun t ht => by simp at ht, by simp⟩
  | succ d ih =>
    intro lo h1 h2
    by_cases h : lo < hi
    · rw [cut_more h]
      have hm : lo < min hi (lo - lo % 65536 + 65536) := by omega
      generalize hM : min hi (lo - lo % 65536 + 65536) = M at *
      have hM1 : M ≤ hi := by omega
      have hM2 : M = hi ∨ M % 65536 = 0 ∧ M / 65536 = lo / 65536 + 1 := by omega
      have hM3 : M ≤ lo - lo % 65536 + 65536 := by omega
      obtain ⟨a, b, c, e⟩ := ih M (by omega) hM1
      have eL : (UInt64.ofNat lo).toNat = lo := u64_of lo (by omega)
      have eM : (UInt64.ofNat M).toNat = M := u64_of M (by omega)
      refine ⟨⟨?_, ?_, ?_, ?_, ?_⟩, fun x => ?_, fun t ht => ?_, ?_⟩
      · show lo ≤ (UInt64.ofNat lo).toNat; omega
      · show (UInt64.ofNat lo).toNat < (UInt64.ofNat M).toNat; omega
      · show (UInt64.ofNat M).toNat ≤ (UInt64.ofNat lo).toNat - (UInt64.ofNat lo).toNat % 65536 + 65536; rw [eL, eM]; exact hM3
      · show (UInt64.ofNat M).toNat ≤ _; omega
      · show myq (nxq (UInt64.ofNat M).toNat) _
        rw [eM]
        rcases hM2 with hM2 | hM2
        · rw [cut_end (by omega)]; trivial
        · unfold nxq; rw [if_pos hM2.1]; exact a
      · rw [sp_cons, b, Bool.eq_iff_iff, Bool.or_eq_true, ins_iff, Bool.and_eq_true, Bool.and_eq_true]
        simp only [decide_eq_true_eq]
        show (UInt64.ofNat lo).toNat ≤ x ∧ x < (UInt64.ofNat M).toNat ∨ _ ↔ _
        rw [eL, eM]
        omega
      · rcases List.mem_cons.1 ht with rfl | ht
        · show (UInt64.ofNat M).toNat ≤ _; omega
        · exact c t ht
      · rw [List.length_cons, if_pos h]
        rcases hM2 with hM2 | hM2
        · rw [cut_end (by omega)]; simp
        · rw [hM2.2] at e
          split at e <;> omega
    · rw [cut_end h]
      exact ⟨trivial, fun x => by rw [sp_nil, Eq.comm, Bool.and_eq_false_iff, decide_eq_false_iff_not, decide_eq_false_iff_not]; omega, fun t ht => by simp at ht, by simp⟩
theorem pcs_spec (l : List Sn) : ∀ n, n ≤ 4294967297 → mys n l →
    myq n (pcs l) ∧ (∀ x, sp (pcs l) x = sp l x) ∧ (pcs l).length + n / 65536 ≤ l.length + 65536 := by
  induction l with
  | nil => intro n hn h; exact ⟨trivial, fun x => rfl, by simp [pcs]; omega⟩
  | cons s l ih =>
    intro n hn h
    obtain ⟨h1, h2, h3, h4⟩ := h
    obtain ⟨a, b, c⟩ := ih (s.2.toNat + 1) (by omega) h4
    obtain ⟨a', b', c', e'⟩ := cut_spec s.2.toNat h3 _ s.1.toNat (Nat.le_refl _) (by omega)
    have e : pcs (s :: l) = cut s.1.toNat s.2.toNat ++ pcs l := by simp [pcs]
    rw [e]
    refine ⟨myq_app (myq_mono h1 a') (by omega) (fun t ht => ?_) a, fun x => ?_, ?_⟩
    · have := c' t ht; have := nxq_ge t.2.toNat; omega
    · rw [sp_app, b', b, sp_cons]; rfl
    · rw [List.length_append, List.length_cons]
      rw [if_pos h2] at e'
      omega
end Go.Proofs.YtcmifbjeabkihabGreatDoor
namespace Go.Proofs.YtcmifbjeabkihabGreatDoor
set_option linter.unusedVariables false

/-- A row whose keys rise, parted ahead of the first place of another key than its first one's. -/
theorem grp {α : Type} (f : α → Nat) {l : List α} (h : l.Pairwise fun a b => f a ≤ f b) {k n : Nat} (hk : ∀ x ∈ l, k ≤ f x) (hn : ∀ i x, i < n → l[i]? = some x → f x = k) (he : ∀ x, l[n]? = some x → f x ≠ k) :
    (∀ x ∈ l.take n, f x = k) ∧ ∀ x ∈ l.drop n, k < f x := by
  refine ⟨fun x hx => ?_, fun x hx => ?_⟩
  · obtain ⟨i, hi⟩ := List.mem_iff_getElem?.1 hx
    rw [List.getElem?_take] at hi
    split at hi
    · rename_i hlt
      exact hn i x hlt hi
    · cases hi
  · obtain ⟨y, r, hy⟩ : ∃ y r, l.drop n = y :: r := by
      cases hd : l.drop n with
      | nil => rw [hd] at hx; cases hx
      | cons y r => exact ⟨y, r, rfl⟩
    have hy0 : l[n]? = some y := by
      have := List.getElem?_drop (xs := l) (i := n) (j := 0)
      rw [hy] at this
      simpa using this.symm
    have h1 := he y hy0
    have h2 := hk y (List.mem_of_getElem? hy0)
    have hp : (y :: r).Pairwise fun a b => f a ≤ f b := by rw [← hy]; exact h.sublist (List.drop_sublist _ _)
    rw [hy] at hx
    rcases List.mem_cons.1 hx with rfl | hx
    · omega
    · have := (List.pairwise_cons.1 hp).1 x hx
      omega

/-- A piece's key; the run of a piece within its key. -/
def skey (s : Sn) : Nat := s.1.toNat / 65536
def tor (s : Sn) : Rn := (UInt16.ofNat (s.1.toNat % 65536), UInt16.ofNat (s.2.toNat - s.1.toNat - 1))
theorem tor_spec {s : Sn} (h1 : s.1.toNat < s.2.toNat) (h2 : s.2.toNat ≤ s.1.toNat - s.1.toNat % 65536 + 65536) :
    (tor s).1.toNat = s.1.toNat % 65536 ∧ (tor s).2.toNat = s.2.toNat - s.1.toNat - 1 ∧ lst (tor s) + 1 + 65536 * skey s = s.2.toNat := by
  have e1 : (UInt16.ofNat (s.1.toNat % 65536)).toNat = s.1.toNat % 65536 := u16_of _ (Nat.mod_lt _ (by omega))
  have e2 : (UInt16.ofNat (s.2.toNat - s.1.toNat - 1)).toNat = s.2.toNat - s.1.toNat - 1 := u16_of _ (by omega)
  refine ⟨e1, e2, ?_⟩
  unfold lst tor skey
  show (UInt16.ofNat _).toNat + (UInt16.ofNat _).toNat + 1 + _ = _
  rw [e1, e2]
  omega
theorem part_runs {k : Nat} : ∀ (l : List Sn) (n m : Nat), myq n l → (∀ s ∈ l, skey s = k) → (∀ s r, l = s :: r → 65536 * k + m ≤ s.1.toNat) →
    mayr m (l.map tor) = true ∧ ∀ x, x < 65536 → mr (l.map tor) x = sp l (65536 * k + x)
  | [], n, m, _, _, _ => ⟨rfl, fun x _ => rfl⟩
  | s :: l, n, m, h, hk, hm => by
    obtain ⟨h1, h2, h3, h4, h5⟩ := h
    obtain ⟨t1, t2, t3⟩ := tor_spec h2 h3
    have hks := hk s (by simp)
    have hms := hm s l rfl
    have ks : s.1.toNat / 65536 = k := hks
    obtain ⟨a, b⟩ := part_runs (k := k) l _ (lst (tor s) + 2) h5 (fun t ht => hk t (by simp [ht])) (fun t r e => by
      subst e
      have kt : t.1.toNat / 65536 = k := hk t (by simp)
      have := h5.1
      rw [hks] at t3
      unfold nxq at this
      split at this <;> omega)
    rw [hks] at t3
    refine ⟨?_, fun x hx => ?_⟩
    · rw [List.map_cons, mayr_cons]
      exact ⟨by omega, by omega, a⟩
    · rw [List.map_cons, mr_cons, b x hx, sp_cons]
      congr 1
      rw [Bool.eq_iff_iff, inr_iff, ins_iff]
      omega
theorem myq_rise : ∀ (l : List Sn) (n : Nat), myq n l → (∀ s ∈ l, n ≤ s.1.toNat) ∧ l.Pairwise fun a b => skey a ≤ skey b
  | [], _, _ => ⟨fun s h => (by cases h), .nil⟩
  | s :: l, n, h => by
    obtain ⟨h1, h2, h3, h4, h5⟩ := h
    obtain ⟨a, b⟩ := myq_rise l _ h5
    have := nxq_ge s.2.toNat
    refine ⟨fun t ht => ?_, List.pairwise_cons.2 ⟨fun t ht => ?_, b⟩⟩
    · rcases List.mem_cons.1 ht with rfl | ht
      · exact h1
      · have := a t ht; omega
    · have := a t ht
      unfold skey; omega
theorem myq_in : ∀ (l : List Sn) (n : Nat), myq n l → ∀ s ∈ l, s.1.toNat < s.2.toNat ∧ s.2.toNat ≤ s.1.toNat - s.1.toNat % 65536 + 65536 ∧ s.2.toNat ≤ 4294967296
  | [], _, _ => fun s h => by cases h
  | s :: l, n, h => by
    obtain ⟨h1, h2, h3, h4, h5⟩ := h
    intro t ht
    rcases List.mem_cons.1 ht with rfl | ht
    · exact ⟨h2, h3, h4⟩
    · exact myq_in l _ h5 t ht
theorem ins_key {s : Sn} (h : s.1.toNat < s.2.toNat ∧ s.2.toNat ≤ s.1.toNat - s.1.toNat % 65536 + 65536) {x : Nat} (hx : ins s x = true) : x / 65536 = skey s := by
  rw [ins_iff] at hx
  unfold skey
  omega
theorem myq_part : ∀ (l : List Sn) (n : Nat), myq n l → ∀ i, myq n (l.take i) ∧ myq n (l.drop i)
  | [], n, _, i => by simp [myq]
  | s :: l, n, h, 0 => by simp [myq, h]
  | s :: l, n, h, i + 1 => by
    obtain ⟨h1, h2, h3, h4, h5⟩ := h
    obtain ⟨a, b⟩ := myq_part l _ h5 i
    have := nxq_ge s.2.toNat
    rw [List.take_succ_cons, List.drop_succ_cons]
    exact ⟨⟨h1, h2, h3, h4, a⟩, myq_mono (by omega) b⟩
/-- What a row of pieces has of a key, and of greater ones, when the pieces of that key are parted off. -/
theorem sp_part {l : List Sn} {i k : Nat} (hl : ∀ s ∈ l, s.1.toNat < s.2.toNat ∧ s.2.toNat ≤ s.1.toNat - s.1.toNat % 65536 + 65536 ∧ s.2.toNat ≤ 4294967296)
    (ha : ∀ s ∈ l.take i, skey s = k) (hb : ∀ s ∈ l.drop i, k < skey s) (x : Nat) :
    (x / 65536 = k → sp l x = sp (l.take i) x) ∧ (k < x / 65536 → sp l x = sp (l.drop i) x) ∧ (k < x / 65536 → sp (l.take i) x = false) := by
  have e : sp l x = (sp (l.take i) x || sp (l.drop i) x) := by rw [← sp_app, List.take_append_drop]
  have e1 : ∀ m : List Sn, (∀ s ∈ m, s ∈ l) → (∀ s ∈ m, skey s ≠ x / 65536) → sp m x = false := fun m hm hk => by
    cases hs : sp m x with
    | false => rfl
    | true =>
      obtain ⟨s, h1, h2⟩ := (sp_iff _ _).1 hs
      exact absurd (ins_key (x := x) ⟨(hl s (hm s h1)).1, (hl s (hm s h1)).2.1⟩ ((ins_iff s x).2 h2)).symm (hk s h1)
  refine ⟨fun hx => ?_, fun hx => ?_, fun hx => ?_⟩
  · rw [e, e1 (l.drop i) (fun s hs => List.mem_of_mem_drop hs) (fun s hs => by have := hb s hs; omega), Bool.or_false]
  · rw [e, e1 (l.take i) (fun s hs => List.mem_of_mem_take hs) (fun s hs => by have := ha s hs; omega), Bool.false_or]
  · exact e1 (l.take i) (fun s hs => List.mem_of_mem_take hs) (fun s hs => by have := ha s hs; omega)

/-- Numbers of 32 bits: whether one is among them; their keys; their lower halves. -/
def mk32 (l : List UInt32) (x : Nat) : Bool := l.any fun y => decide (y.toNat = x)
def ukey (y : UInt32) : Nat := y.toNat / 65536
def ulow (y : UInt32) : UInt16 := UInt16.ofNat (y.toNat % 65536)
theorem u32_lt (y : UInt32) : y.toNat < 4294967296 := y.toNat_lt
theorem ulow_nat (y : UInt32) : (ulow y).toNat = y.toNat % 65536 := u16_of _ (Nat.mod_lt _ (by omega))
theorem mk32_iff (l : List UInt32) (x : Nat) : mk32 l x = true ↔ ∃ y ∈ l, y.toNat = x := by simp [mk32]
theorem mk32_app (l m : List UInt32) (x : Nat) : mk32 (l ++ m) x = (mk32 l x || mk32 m x) := by simp [mk32]
/-- Numbers rise. -/
def rsu (l : List UInt32) : Prop := l.Pairwise fun a b => a.toNat < b.toNat
theorem rsu_keys {l : List UInt32} (h : rsu l) : l.Pairwise fun a b => ukey a ≤ ukey b := h.imp fun hab => by unfold ukey; omega
theorem part_lows {k : Nat} : ∀ l : List UInt32, rsu l → (∀ y ∈ l, ukey y = k) → ris (l.map ulow) = true ∧ ∀ x, x < 65536 → mk (l.map ulow) x = mk32 l (65536 * k + x)
  | [], _, _ => ⟨rfl, fun x _ => rfl⟩
  | y :: l, h, hk => by
    obtain ⟨h1, h2⟩ := List.pairwise_cons.1 h
    obtain ⟨a, b⟩ := part_lows (k := k) l h2 (fun t ht => hk t (by simp [ht]))
    have ky : y.toNat / 65536 = k := hk y (by simp)
    refine ⟨?_, fun x hx => ?_⟩
    · rw [List.map_cons]
      refine ris_cons (fun z hz => ?_) a
      obtain ⟨t, ht, rfl⟩ := List.mem_map.1 hz
      have := h1 t ht
      have kt : t.toNat / 65536 = k := hk t (by simp [ht])
      rw [ulow_nat, ulow_nat]
      omega
    · have e1 : mk (ulow y :: l.map ulow) x = (decide ((ulow y).toNat = x) || mk (l.map ulow) x) := by simp [mk]
      have e2 : mk32 (y :: l) (65536 * k + x) = (decide (y.toNat = 65536 * k + x) || mk32 l (65536 * k + x)) := by simp [mk32]
      rw [List.map_cons, e1, e2, b x hx, ulow_nat]
      congr 1
      exact decide_eq_decide.2 ⟨fun h => by omega, fun h => by omega⟩
theorem mk32_part {l : List UInt32} {i k : Nat} (ha : ∀ y ∈ l.take i, ukey y = k) (hb : ∀ y ∈ l.drop i, k < ukey y) (x : Nat) :
    (x / 65536 = k → mk32 l x = mk32 (l.take i) x) ∧ (k < x / 65536 → mk32 l x = mk32 (l.drop i) x) := by
  have e : mk32 l x = (mk32 (l.take i) x || mk32 (l.drop i) x) := by rw [← mk32_app, List.take_append_drop]
  have e1 : ∀ m : List UInt32, (∀ y ∈ m, ukey y ≠ x / 65536) → mk32 m x = false := fun m hk => by
    cases hs : mk32 m x with
    | false => rfl
    | true =>
      obtain ⟨y, h1, h2⟩ := (mk32_iff _ _).1 hs
      subst h2
      exact absurd rfl (hk y h1)
  refine ⟨fun hx => ?_, fun hx => ?_⟩
  · rw [e, e1 (l.drop i) (fun s hs => by have := hb s hs; omega), Bool.or_false]
  · rw [e, e1 (l.take i) (fun s hs => by have := ha s hs; omega), Bool.false_or]
end Go.Proofs.YtcmifbjeabkihabGreatDoor
