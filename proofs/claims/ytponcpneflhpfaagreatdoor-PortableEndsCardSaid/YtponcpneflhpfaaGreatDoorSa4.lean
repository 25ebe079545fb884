/- Plain mathematics: sets as words, bit by bit; how many bits a word has; its lowest bit. No Go in sight. -/
import Derived.Test.YtponcpneflhpfaaGreatDoorKPS
import Derived.Test.YtponcpneflhpfaaGreatDoorK33faS
import Derived.Test.YtponcpneflhpfaaGreatDoorK33fbS
import Derived.WalkKit
import Derived.Lib.TrailingZeros
namespace Go.Proofs.YtponcpneflhpfaaGreatDoor
open Go
set_option maxRecDepth 100000
set_option linter.unusedSimpArgs false
theorem portableSmall_closed : joinedFacts Tryz.prog 7 Tryz.f7 Rows.portableSmallSpec Rows.portableSmallRow = true := by
  unfold joinedFacts
  simp only [pg_laid, pg_maps, pg_heard, pg_enter, portableSmall_named, portableSmall_recurses, portableSmall_lifted_, portableSmall_inPlace, portableSmall_unfollowed, Bool.and_true, Bool.true_and]
  kernel_rfl
end Go.Proofs.YtponcpneflhpfaaGreatDoor
namespace Go.Proofs.YtponcpneflhpfaaGreatDoor

/-- The row rises. -/
def ris : List UInt16 → Bool
  | x :: y :: l => decide (x.toNat < y.toNat) && ris (y :: l)
  | _ => true
theorem u16_eq {x y : UInt16} (h : x.toNat = y.toNat) : x = y := UInt16.toNat_inj.1 h
theorem u16_lt (x : UInt16) : x.toNat < 65536 := x.toNat_lt
theorem u16_of (n : Nat) (h : n < 65536) : (UInt16.ofNat n).toNat = n := by simp; omega
theorem ris_tail {x : UInt16} {l : List UInt16} (h : ris (x :: l) = true) : ris l = true := by
  cases l with
  | nil => rfl
  | cons y l => simp [ris] at h; exact h.2
theorem ris_lt {x : UInt16} {l : List UInt16} (h : ris (x :: l) = true) : ∀ y ∈ l, x.toNat < y.toNat := by
  induction l generalizing x with
  | nil => intro y hy; cases hy
  | cons z l ih =>
    simp [ris] at h
    intro y hy
    rcases List.mem_cons.1 hy with rfl | hy
    · exact h.1
    · have := ih h.2 y hy
      omega
theorem ris_cons {x : UInt16} {l : List UInt16} (h1 : ∀ y ∈ l, x.toNat < y.toNat) (h2 : ris l = true) : ris (x :: l) = true := by
  cases l with
  | nil => rfl
  | cons z l =>
    simp [ris]
    exact ⟨h1 z (by simp), h2⟩
theorem ris_ext {a b : List UInt16} (ha : ris a = true) (hb : ris b = true) (h : ∀ z, z ∈ a ↔ z ∈ b) : a = b := by
  induction a generalizing b with
  | nil =>
    cases b with
    | nil => rfl
    | cons y b => exact absurd ((h y).2 (by simp)) (by simp)
  | cons x a ih =>
    cases b with
    | nil => exact absurd ((h x).1 (by simp)) (by simp)
    | cons y b =>
      have h1 := ris_lt ha
      have h2 := ris_lt hb
      have e : x = y := by
        apply u16_eq
        have hx := (h x).1 (by simp)
        have hy := (h y).2 (by simp)
        rcases List.mem_cons.1 hx with rfl | hx
        · rfl
        rcases List.mem_cons.1 hy with rfl | hy
        · rfl
        have := h1 y hy
        have := h2 x hx
        omega
      subst e
      rw [ih (ris_tail ha) (ris_tail hb) fun z => ?_]
      constructor
      · intro hz
        rcases List.mem_cons.1 ((h z).1 (by simp [hz])) with rfl | h3
        · have := h1 z hz; omega
        · exact h3
      · intro hz
        rcases List.mem_cons.1 ((h z).2 (by simp [hz])) with rfl | h3
        · have := h2 z hz; omega
        · exact h3
theorem ris_filter (p : UInt16 → Bool) {l : List UInt16} (h : ris l = true) : ris (l.filter p) = true := by
  induction l with
  | nil => rfl
  | cons x l ih =>
    rw [List.filter_cons]
    split
    · exact ris_cons (fun y hy => ris_lt h y (List.mem_filter.1 hy).1) (ih (ris_tail h))
    · exact ih (ris_tail h)
theorem ris_app {a b : List UInt16} (ha : ris a = true) (hb : ris b = true) (h : ∀ x ∈ a, ∀ y ∈ b, x.toNat < y.toNat) : ris (a ++ b) = true := by
  induction a with
  | nil => exact hb
  | cons x a ih =>
    rw [List.cons_append]
    refine ris_cons (fun y hy => ?_) (ih (ris_tail ha) fun z hz => h z (by simp [hz]))
    rcases List.mem_append.1 hy with hy | hy
    · exact ris_lt ha y hy
    · exact h x (by simp) y hy
theorem ris_split {a b : List UInt16} (h : ris (a ++ b) = true) : ris a = true ∧ ris b = true ∧ ∀ x ∈ a, ∀ y ∈ b, x.toNat < y.toNat := by
  induction a with
  | nil => exact ⟨rfl, h, fun x hx => by cases hx⟩
  | cons x a ih =>
    rw [List.cons_append] at h
    have h1 := ris_lt h
    obtain ⟨h2, h3, h4⟩ := ih (ris_tail h)
    refine ⟨ris_cons (fun y hy => h1 y (by simp [hy])) h2, h3, fun z hz y hy => ?_⟩
    rcases List.mem_cons.1 hz with rfl | hz
    · exact h1 y (by simp [hy])
    · exact h4 z hz y hy

/-- Two rows side by side: the numbers of which f says yes. -/
def mg (f : Bool → Bool → Bool) : List UInt16 → List UInt16 → List UInt16
  | [], [] => []
  | x :: a, [] => (if f true false then [x] else []) ++ mg f a []
  | [], y :: b => (if f false true then [y] else []) ++ mg f [] b
  | x :: a, y :: b =>
    if x.toNat < y.toNat then (if f true false then [x] else []) ++ mg f a (y :: b)
    else if y.toNat < x.toNat then (if f false true then [y] else []) ++ mg f (x :: a) b
    else (if f true true then [x] else []) ++ mg f a b
termination_by a b => a.length + b.length
theorem mem_ite1 (c : Bool) (x z : UInt16) : z ∈ (if c = true then [x] else []) ↔ z = x ∧ c = true := by cases c <;> simp
theorem mg_sub (f : Bool → Bool → Bool) (a b : List UInt16) : ∀ z ∈ mg f a b, z ∈ a ∨ z ∈ b := by
  fun_induction mg f a b with
  | case1 => intro z hz; cases hz
  | case2 x a ih =>
    intro z hz
    rw [List.mem_append, mem_ite1] at hz
    rcases hz with ⟨rfl, _⟩ | hz
    · simp
    · have := ih z hz; simp_all
  | case3 y b ih =>
    intro z hz
    rw [List.mem_append, mem_ite1] at hz
    rcases hz with ⟨rfl, _⟩ | hz
    · simp
    · have := ih z hz; simp_all
  | case4 x a y b h ih =>
    intro z hz
    rw [List.mem_append, mem_ite1] at hz
    rcases hz with ⟨rfl, _⟩ | hz
    · simp
    · rcases ih z hz with h | h
      · simp [h]
      · exact .inr h
  | case5 x a y b h1 h2 ih =>
    intro z hz
    rw [List.mem_append, mem_ite1] at hz
    rcases hz with ⟨rfl, _⟩ | hz
    · simp
    · rcases ih z hz with h | h
      · exact .inl h
      · simp [h]
  | case6 x a y b h1 h2 ih =>
    intro z hz
    rw [List.mem_append, mem_ite1] at hz
    rcases hz with ⟨rfl, _⟩ | hz
    · simp
    · rcases ih z hz with h | h <;> simp [h]
theorem ris_mg (f : Bool → Bool → Bool) {a b : List UInt16} (ha : ris a = true) (hb : ris b = true) : ris (mg f a b) = true := by
  have key : ∀ (c : Bool) (x : UInt16) (l : List UInt16), (∀ y ∈ l, x.toNat < y.toNat) → ris l = true → ris ((if c = true then [x] else []) ++ l) = true := by
    intro c x l h1 h2
    cases c
    · exact h2
    · exact ris_cons h1 h2
  fun_induction mg f a b with
  | case1 => rfl
  | case2 x a ih => exact key _ _ _ (fun y hy => by rcases mg_sub f _ _ y hy with h | h; exact ris_lt ha y h; cases h) (ih (ris_tail ha) rfl)
  | case3 y b ih => exact key _ _ _ (fun z hz => by rcases mg_sub f _ _ z hz with h | h; cases h; exact ris_lt hb z h) (ih rfl (ris_tail hb))
  | case4 x a y b h ih =>
    refine key _ _ _ (fun z hz => ?_) (ih (ris_tail ha) hb)
    rcases mg_sub f _ _ z hz with h | h
    · exact ris_lt ha z h
    · rcases List.mem_cons.1 h with rfl | h
      · omega
      · have := ris_lt hb z h; omega
  | case5 x a y b h1 h2 ih =>
    refine key _ _ _ (fun z hz => ?_) (ih ha (ris_tail hb))
    rcases mg_sub f _ _ z hz with h | h
    · rcases List.mem_cons.1 h with rfl | h
      · omega
      · have := ris_lt ha z h; omega
    · exact ris_lt hb z h
  | case6 x a y b h1 h2 ih =>
    refine key _ _ _ (fun z hz => ?_) (ih (ris_tail ha) (ris_tail hb))
    rcases mg_sub f _ _ z hz with h | h
    · exact ris_lt ha z h
    · have := ris_lt hb z h; omega
theorem mg_mem (f : Bool → Bool → Bool) (hf : f false false = false) {a b : List UInt16} (ha : ris a = true) (hb : ris b = true) (z : UInt16) :
    z ∈ mg f a b ↔ f (decide (z ∈ a)) (decide (z ∈ b)) = true := by
  fun_induction mg f a b with
  | case1 => simp [hf]
  | case2 x a ih =>
    have h1 := ris_lt ha
    rw [List.mem_append, mem_ite1, ih (ris_tail ha) rfl]
    by_cases h : z = x
    · subst h
      have : z ∉ a := fun h => by have := h1 z h; omega
      simp [this, hf]
    · simp [h]
  | case3 y b ih =>
    have h1 := ris_lt hb
    rw [List.mem_append, mem_ite1, ih rfl (ris_tail hb)]
    by_cases h : z = y
    · subst h
      have : z ∉ b := fun h => by have := h1 z h; omega
      simp [this, hf]
    · simp [h]
  | case4 x a y b hxy ih =>
    have h1 := ris_lt ha
    have h2 := ris_lt hb
    rw [List.mem_append, mem_ite1, ih (ris_tail ha) hb]
    by_cases h : z = x
    · subst h
      have h3 : z ∉ a := fun h => by have := h1 z h; omega
      have h4 : z ∉ b := fun h => by have := h2 z h; omega
      have h5 : z ≠ y := by rintro rfl; omega
      simp [h3, h4, h5, hf]
    · simp [h]
  | case5 x a y b h0 hyx ih =>
    have h1 := ris_lt ha
    have h2 := ris_lt hb
    rw [List.mem_append, mem_ite1, ih ha (ris_tail hb)]
    by_cases h : z = y
    · subst h
      have h3 : z ∉ a := fun h => by have := h1 z h; omega
      have h4 : z ∉ b := fun h => by have := h2 z h; omega
      have h5 : z ≠ x := by rintro rfl; omega
      simp [h3, h4, h5, hf]
    · simp [h]
  | case6 x a y b h0 h0' ih =>
    have h1 := ris_lt ha
    have h2 := ris_lt hb
    obtain rfl : x = y := u16_eq (by omega)
    rw [List.mem_append, mem_ite1, ih (ris_tail ha) (ris_tail hb)]
    by_cases h : z = x
    · subst h
      have h3 : z ∉ a := fun h => by have := h1 z h; omega
      have h4 : z ∉ b := fun h => by have := h2 z h; omega
      simp [h3, h4, hf]
    · simp [h]

def fXor (x y : Bool) : Bool := x != y
theorem mg_le (f : Bool → Bool → Bool) (a b : List UInt16) : (mg f a b).length ≤ a.length + b.length := by
  have key : ∀ (c : Bool) (x : UInt16), (if c = true then [x] else []).length ≤ 1 := by intro c x; cases c <;> simp
  fun_induction mg f a b with
  | case1 => simp
  | case2 x a ih => have := key (f true false) x; simp only [List.length_append, List.length_cons, List.length_nil] at ih ⊢; omega
  | case3 y b ih => have := key (f false true) y; simp only [List.length_append, List.length_cons, List.length_nil] at ih ⊢; omega
  | case4 x a y b h ih => have := key (f true false) x; simp only [List.length_append, List.length_cons] at ih ⊢; omega
  | case5 x a y b h h2 ih => have := key (f false true) y; simp only [List.length_append, List.length_cons] at ih ⊢; omega
  | case6 x a y b h h2 ih => have := key (f true true) x; simp only [List.length_append, List.length_cons] at ih ⊢; omega
end Go.Proofs.YtponcpneflhpfaaGreatDoor
namespace Go.Proofs.YtponcpneflhpfaaGreatDoor

/-- The number at a place. -/
def at16 (l : List UInt16) (k : Nat) : UInt16 := l.getD k 0
/-- The search by halves between i and j. -/
def bsr (l : List UInt16) (x : UInt16) : Nat → Nat → Nat → Nat
  | 0, i, _ => i
  | f + 1, i, j => if i < j then (if (at16 l ((i + j) / 2)).toNat < x.toNat then bsr l x f ((i + j) / 2 + 1) j else bsr l x f i ((i + j) / 2)) else i
def bs (l : List UInt16) (x : UInt16) : Nat := bsr l x l.length 0 l.length
def fd (l : List UInt16) (x : UInt16) : Bool := decide (bs l x < l.length) && decide ((at16 l (bs l x)).toNat = x.toNat)
theorem bsr_le (l : List UInt16) (x : UInt16) (f i j : Nat) (h : i ≤ j) : i ≤ bsr l x f i j ∧ bsr l x f i j ≤ j := by
  induction f generalizing i j with
  | zero => exact ⟨Nat.le_refl _, h⟩
  | succ f ih =>
    unfold bsr
    split
    · split
      · have := ih ((i + j) / 2 + 1) j (by omega)
        omega
      · have := ih i ((i + j) / 2) (by omega)
        omega
    · omega
theorem bs_le (l : List UInt16) (x : UInt16) : bs l x ≤ l.length := (bsr_le l x _ 0 _ (Nat.zero_le _)).2
theorem at16_eq {l : List UInt16} {k : Nat} {y : UInt16} (h : l[k]? = some y) : at16 l k = y := by simp [at16, List.getD, h]
theorem at16_get {l : List UInt16} {k : Nat} (h : k < l.length) : l[k]? = some (at16 l k) := by rw [List.getElem?_eq_getElem h]; simp [at16, List.getD, h]
theorem ris_at {l : List UInt16} (h : ris l = true) {i j : Nat} (hi : i < j) (hj : j < l.length) : (at16 l i).toNat < (at16 l j).toNat := by
  induction l generalizing i j with
  | nil => simp at hj
  | cons x l ih =>
    cases j with
    | zero => omega
    | succ j =>
      simp at hj
      have e : at16 (x :: l) (j + 1) = at16 l j := by simp [at16]
      rw [e]
      cases i with
      | zero =>
        have e : at16 (x :: l) 0 = x := by simp [at16]
        rw [e]
        exact ris_lt h _ (List.mem_of_getElem? (at16_get hj))
      | succ i =>
        have e : at16 (x :: l) (i + 1) = at16 l i := by simp [at16]
        rw [e]
        exact ih (ris_tail h) (by omega) hj
theorem bsr_split {l : List UInt16} (h : ris l = true) (x : UInt16) (f i j : Nat) (hij : i ≤ j) (hj : j ≤ l.length) (hf : j - i ≤ f)
    (h1 : ∀ k, k < i → (at16 l k).toNat < x.toNat) (h2 : ∀ k, j ≤ k → k < l.length → x.toNat ≤ (at16 l k).toNat) :
    (∀ k, k < bsr l x f i j → (at16 l k).toNat < x.toNat) ∧ ∀ k, bsr l x f i j ≤ k → k < l.length → x.toNat ≤ (at16 l k).toNat := by
  induction f generalizing i j with
  | zero =>
    obtain rfl : i = j := by omega
    exact ⟨h1, h2⟩
  | succ f ih =>
    unfold bsr
    split
    · rename_i hlt
      split
      · rename_i hm
        refine ih _ _ (by omega) hj (by omega) (fun k hk => ?_) h2
        rcases Nat.lt_or_ge k ((i + j) / 2) with h3 | h3
        · have := ris_at h h3 (by omega)
          omega
        · obtain rfl : k = (i + j) / 2 := by omega
          exact hm
      · rename_i hm
        refine ih _ _ (by omega) (by omega) (by omega) h1 (fun k hk hk2 => ?_)
        rcases Nat.lt_or_ge ((i + j) / 2) k with h3 | h3
        · have := ris_at h h3 hk2
          omega
        · obtain rfl : k = (i + j) / 2 := by omega
          omega
    · obtain rfl : i = j := by omega
      exact ⟨h1, h2⟩
theorem bs_take {l : List UInt16} (h : ris l = true) (x : UInt16) : ∀ y ∈ l.take (bs l x), y.toNat < x.toNat := by
  have := (bsr_split h x l.length 0 l.length (Nat.zero_le _) (Nat.le_refl _) (by omega) (fun k hk => by omega) (fun k h1 h2 => by omega)).1
  intro y hy
  obtain ⟨k, hk⟩ := List.mem_iff_getElem?.1 hy
  rw [List.getElem?_take] at hk
  split at hk
  · rw [← at16_eq hk]
    exact this k (by assumption)
  · cases hk
theorem bs_drop {l : List UInt16} (h : ris l = true) (x : UInt16) : ∀ y ∈ l.drop (bs l x), x.toNat ≤ y.toNat := by
  have := (bsr_split h x l.length 0 l.length (Nat.zero_le _) (Nat.le_refl _) (by omega) (fun k hk => by omega) (fun k h1 h2 => by omega)).2
  intro y hy
  obtain ⟨k, hk⟩ := List.mem_iff_getElem?.1 hy
  rw [List.getElem?_drop] at hk
  rw [← at16_eq hk]
  exact this _ (by unfold bs; omega) (List.getElem?_eq_some_iff.1 hk).1
theorem bs_count {l : List UInt16} (h : ris l = true) (x : UInt16) : bs l x = (l.filter fun y => decide (y.toNat < x.toNat)).length := by
  have h1 := bs_take h x
  have h2 := bs_drop h x
  have h3 := bs_le l x
  conv => rhs; rw [← List.take_append_drop (bs l x) l]
  rw [List.filter_append, List.filter_eq_self.2 (by simpa using h1), List.filter_eq_nil_iff.2 (fun y hy => by have := h2 y hy; simp; omega)]
  simp
  omega
theorem fd_mem {l : List UInt16} (h : ris l = true) (x : UInt16) : fd l x = decide (x ∈ l) := by
  have h1 := bs_take h x
  have h2 := bs_drop h x
  rw [Bool.eq_iff_iff]
  simp only [fd, Bool.and_eq_true, decide_eq_true_eq]
  constructor
  · rintro ⟨h3, h4⟩
    have := at16_get h3
    rw [u16_eq h4] at this
    exact List.mem_of_getElem? this
  · intro hx
    rw [← List.take_append_drop (bs l x) l] at hx
    rcases List.mem_append.1 hx with hx | hx
    · have := h1 x hx; omega
    · have hlt : bs l x < l.length := by
        rcases Nat.lt_or_ge (bs l x) l.length with h | h
        · exact h
        · rw [List.drop_eq_nil_of_le h] at hx; cases hx
      refine ⟨hlt, ?_⟩
      have h5 : at16 l (bs l x) ∈ l.drop (bs l x) := by
        refine List.mem_iff_getElem?.2 ⟨0, ?_⟩
        rw [List.getElem?_drop]
        exact at16_get hlt
      have h6 := h2 _ h5
      obtain ⟨k, hk⟩ := List.mem_iff_getElem?.1 hx
      rw [List.getElem?_drop] at hk
      rcases Nat.eq_zero_or_pos k with rfl | hk0
      · rw [Nat.add_zero] at hk; rw [at16_eq hk]
      · have := ris_at h (i := bs l x) (j := bs l x + k) (by omega) (List.getElem?_eq_some_iff.1 hk).1
        rw [at16_eq hk] at this
        omega

/-- The row with x. -/
def wi (l : List UInt16) (x : UInt16) : List UInt16 := if fd l x = true then l else l.take (bs l x) ++ x :: l.drop (bs l x)
/-- How many runs begin in a row that follows a number. -/
def rn : Option UInt16 → List UInt16 → Nat
  | _, [] => 0
  | none, x :: l => 1 + rn (some x) l
  | some p, x :: l => (if (x - p).toNat = 1 then 0 else 1) + rn (some x) l
theorem sub_one {x p : UInt16} (h : p.toNat < x.toNat) : (x - p).toNat = x.toNat - p.toNat := by
  have := x.toNat_lt
  rw [UInt16.toNat_sub]
  omega
/-- x has no one below it in the row. -/
def hd (l : List UInt16) (x : UInt16) : Bool := decide (x.toNat = 0) || !fd l (x - 1)
theorem pred_toNat {x : UInt16} (h : x.toNat ≠ 0) : (x - 1).toNat = x.toNat - 1 := by
  have := x.toNat_lt
  rw [UInt16.toNat_sub]
  simp
  omega
theorem hd_iff {l : List UInt16} (h : ris l = true) (x : UInt16) : hd l x = true ↔ ∀ y ∈ l, y.toNat + 1 ≠ x.toNat := by
  unfold hd
  rw [fd_mem h, Bool.or_eq_true, decide_eq_true_eq, Bool.not_eq_true', decide_eq_false_iff_not]
  constructor
  · rintro (h1 | h1) y hy
    · omega
    · intro h2
      exact h1 (by rw [u16_eq (x := x - 1) (y := y) (by rw [pred_toNat] <;> omega)]; exact hy)
  · intro h1
    by_cases h0 : x.toNat = 0
    · exact .inl h0
    · refine .inr fun hx => h1 _ hx ?_
      rw [pred_toNat h0]
      omega
theorem rn_some {p : UInt16} {l1 l2 : List UInt16} (h : ris (l1 ++ p :: l2) = true) : rn (some p) l2 = (l2.filter (hd (l1 ++ p :: l2))).length := by
  induction l2 generalizing l1 p with
  | nil => rfl
  | cons x l2 ih =>
    have e : l1 ++ p :: x :: l2 = (l1 ++ [p]) ++ x :: l2 := by simp
    obtain ⟨h3, h4, h5⟩ := ris_split (e ▸ h)
    have h6 := h5 p (by simp) x (by simp)
    obtain ⟨h7, h8, h9⟩ := ris_split h
    have h10 := ris_lt h4
    rw [rn, List.filter_cons, ih (e ▸ h), ← e, sub_one h6]
    by_cases hp : x.toNat - p.toNat = 1
    · rw [if_pos hp, if_neg, Nat.zero_add]
      rw [hd_iff h]
      intro h1
      exact h1 p (by simp) (by omega)
    · rw [if_neg hp, if_pos]
      · simp; omega
      · rw [hd_iff h]
        intro y hy
        rcases List.mem_append.1 hy with hy | hy
        · have := h9 y hy p (by simp)
          omega
        · rcases List.mem_cons.1 hy with rfl | hy
          · omega
          · rcases List.mem_cons.1 hy with rfl | hy
            · omega
            · have := h10 y hy
              omega
theorem rn_count {l : List UInt16} (h : ris l = true) : rn none l = (l.filter (hd l)).length := by
  cases l with
  | nil => rfl
  | cons x l =>
    have h1 := ris_lt h
    rw [rn, rn_some (l1 := []) (by simpa using h), List.filter_cons, if_pos]
    · simp; omega
    · rw [hd_iff h]
      intro y hy
      rcases List.mem_cons.1 hy with rfl | hy
      · omega
      · have := h1 y hy
        omega
/-- The numbers below n that are marked, rising. -/
def ls (p : Nat → Bool) : Nat → List UInt16
  | 0 => []
  | n + 1 => ls p n ++ if p n = true then [UInt16.ofNat n] else []
theorem ls_mem (p : Nat → Bool) (n : Nat) (hn : n ≤ 65536) (z : UInt16) : z ∈ ls p n ↔ z.toNat < n ∧ p z.toNat = true := by
  induction n with
  | zero => simp [ls]
  | succ n ih =>
    have hz : z = UInt16.ofNat n ↔ z.toNat = n := by rw [← UInt16.toNat_inj, u16_of n (by omega)]
    rw [ls, List.mem_append, ih (by omega)]
    constructor
    · rintro (⟨h1, h2⟩ | h)
      · exact ⟨by omega, h2⟩
      · split at h
        · rw [List.mem_singleton, hz] at h
          subst h
          exact ⟨by omega, by assumption⟩
        · cases h
    · rintro ⟨h1, h2⟩
      rcases Nat.lt_or_ge z.toNat n with h | h
      · exact .inl ⟨h, h2⟩
      · have e : z.toNat = n := by omega
        rw [e] at h2
        rw [if_pos h2, List.mem_singleton, hz]
        exact .inr e
theorem ris_ls (p : Nat → Bool) (n : Nat) (hn : n ≤ 65536) : ris (ls p n) = true := by
  induction n with
  | zero => rfl
  | succ n ih =>
    rw [ls]
    split
    · refine ris_app (ih (by omega)) rfl fun x hx y hy => ?_
      rw [ls_mem p n (by omega)] at hx
      rw [List.mem_singleton] at hy
      subst hy
      rw [u16_of n (by omega)]
      exact hx.1
    · rw [List.append_nil]
      exact ih (by omega)
theorem ls_len (p : Nat → Bool) (n : Nat) : (ls p n).length ≤ n := by
  induction n with
  | zero => simp [ls]
  | succ n ih => rw [ls]; split <;> simp <;> omega
/-- The marks of a row. -/
def mk (l : List UInt16) (i : Nat) : Bool := l.any fun y => decide (y.toNat = i)
theorem mk_iff (l : List UInt16) (z : UInt16) : mk l z.toNat = true ↔ z ∈ l := by
  simp only [mk, List.any_eq_true, decide_eq_true_eq]
  exact ⟨fun ⟨y, h1, h2⟩ => u16_eq h2 ▸ h1, fun h => ⟨z, h, rfl⟩⟩
theorem mk_dec (l : List UInt16) (z : UInt16) : mk l z.toNat = decide (z ∈ l) := by rw [Bool.eq_iff_iff, mk_iff, decide_eq_true_eq]
theorem ls_mg (f : Bool → Bool → Bool) (hf : f false false = false) {a b : List UInt16} (ha : ris a = true) (hb : ris b = true) :
    mg f a b = ls (fun i => f (mk a i) (mk b i)) 65536 := by
  refine ris_ext (ris_mg f ha hb) (ris_ls _ _ (Nat.le_refl _)) fun z => ?_
  rw [mg_mem f hf ha hb, ls_mem _ _ (Nat.le_refl _), mk_dec, mk_dec]
  exact ⟨fun h => ⟨z.toNat_lt, h⟩, fun h => h.2⟩
theorem bs_ls {a : List UInt16} (ha : ris a = true) (x : UInt16) : bs a x = (ls (mk a) x.toNat).length := by
  rw [bs_count ha]
  refine congrArg List.length ?_
  have := x.toNat_lt
  refine ris_ext (ris_filter _ ha) (ris_ls _ _ (by omega)) fun z => ?_
  rw [List.mem_filter, ls_mem _ _ (by omega), mk_iff, decide_eq_true_eq]
  exact ⟨fun h => ⟨h.2, h.1⟩, fun h => ⟨h.2, h.1⟩⟩
/-- Where runs begin among marks. -/
def hm (p : Nat → Bool) (i : Nat) : Bool := p i && (decide (i = 0) || !p (i - 1))
theorem rn_ls {a : List UInt16} (ha : ris a = true) : rn none a = (ls (hm (mk a)) 65536).length := by
  rw [rn_count ha]
  refine congrArg List.length ?_
  refine ris_ext (ris_filter _ ha) (ris_ls _ _ (Nat.le_refl _)) fun z => ?_
  rw [List.mem_filter, ls_mem _ _ (Nat.le_refl _), hm, Bool.and_eq_true, mk_iff]
  have key : hd a z = (decide (z.toNat = 0) || !mk a (z.toNat - 1)) := by
    unfold hd
    by_cases h0 : z.toNat = 0
    · simp [h0]
    · rw [fd_mem ha, ← pred_toNat h0, mk_dec]
  rw [key]
  exact ⟨fun h => ⟨z.toNat_lt, h⟩, fun h => h.2⟩
end Go.Proofs.YtponcpneflhpfaaGreatDoor
namespace Go.Proofs.YtponcpneflhpfaaGreatDoor
set_option linter.unusedVariables false

/-- Whether the number x is in the words. -/
def wb (w : List UInt64) (x : Nat) : Bool := (w.getD (x / 64) 0).toNat.testBit (x % 64)
/-- The first k marks as a number. -/
def wn (p : Nat → Bool) : Nat → Nat
  | 0 => 0
  | k + 1 => wn p k + (p k).toNat * 2 ^ k
/-- Marks as 1024 words. -/
def wm (p : Nat → Bool) : List UInt64 := (List.range 1024).map fun i => UInt64.ofNat (wn (fun j => p (64 * i + j)) 64)
/-- How many marks are below n. -/
def ct (p : Nat → Bool) : Nat → Nat
  | 0 => 0
  | k + 1 => ct p k + (p k).toNat

theorem wn_lt (p : Nat → Bool) (c : Nat) : wn p c < 2 ^ c := by
  induction c with
  | zero => simp [wn]
  | succ k ih =>
    rw [wn, Nat.pow_succ]
    cases p k <;> simp <;> omega
theorem wn_bit (p : Nat → Bool) (c k : Nat) : (wn p c).testBit k = (decide (k < c) && p k) := by
  induction c with
  | zero => simp [wn]
  | succ m ih =>
    have hlt := wn_lt p m
    have e : wn p (m + 1) = 2 ^ m * (p m).toNat + wn p m := by rw [wn, Nat.mul_comm, Nat.add_comm]
    rw [e, Nat.testBit_two_pow_mul_add _ hlt]
    by_cases h : k < m
    · rw [if_pos h, ih]
      simp [h, Nat.lt_succ_of_lt h]
    · rw [if_neg h]
      by_cases h2 : k = m
      · subst h2
        cases p k <;> simp
      · have h3 : ¬ k < m + 1 := by omega
        have h4 : k - m ≠ 0 := by omega
        simp only [h3, decide_false, Bool.false_and]
        cases p m
        · simp
        · obtain ⟨d, hd⟩ := Nat.exists_eq_succ_of_ne_zero h4
          rw [hd]
          simp [Nat.testBit_succ]
theorem nat_ext {x y : Nat} (hx : x < 18446744073709551616) (hy : y < 18446744073709551616) (h : ∀ t, t < 64 → x.testBit t = y.testBit t) : x = y := by
  apply Nat.eq_of_testBit_eq
  intro t
  by_cases ht : t < 64
  · exact h t ht
  · have hp : 2 ^ 64 ≤ 2 ^ t := Nat.pow_le_pow_right (n := 2) (by omega) (by omega)
    rw [Nat.testBit_lt_two_pow (by omega), Nat.testBit_lt_two_pow (by omega)]
theorem u64_lt (x : UInt64) : x.toNat < 18446744073709551616 := x.toNat_lt
theorem u64_ext {x y : UInt64} (h : ∀ t, t < 64 → x.toNat.testBit t = y.toNat.testBit t) : x = y :=
  UInt64.toNat_inj.1 (nat_ext (u64_lt x) (u64_lt y) h)
theorem u64_of (n : Nat) (h : n < 18446744073709551616) : (UInt64.ofNat n).toNat = n := by simp; omega

theorem wm_length (p : Nat → Bool) : (wm p).length = 1024 := by simp [wm]
theorem wm_getD (p : Nat → Bool) (i : Nat) (hi : i < 1024) : (wm p).getD i 0 = UInt64.ofNat (wn (fun j => p (64 * i + j)) 64) := by
  simp [wm, List.getD_eq_getElem?_getD, List.getElem?_map, List.getElem?_range hi]
theorem wm_get (p : Nat → Bool) (i : Nat) (hi : i < 1024) : (wm p)[i]? = some (UInt64.ofNat (wn (fun j => p (64 * i + j)) 64)) := by
  simp [wm, List.getElem?_map, List.getElem?_range hi]
theorem wm_word (p : Nat → Bool) (i : Nat) (hi : i < 1024) : ((wm p).getD i 0).toNat = wn (fun j => p (64 * i + j)) 64 := by
  rw [wm_getD p i hi, u64_of _ (wn_lt _ 64)]
theorem wb_wm (p : Nat → Bool) (x : Nat) (hx : x < 65536) : wb (wm p) x = p x := by
  unfold wb
  rw [wm_word p _ (by omega), wn_bit]
  have h1 : x % 64 < 64 := by omega
  have h2 : 64 * (x / 64) + x % 64 = x := by omega
  simp [h1, h2]
theorem wb_at (w : List UInt64) (i j : Nat) (hj : j < 64) : (w.getD i 0).toNat.testBit j = wb w (64 * i + j) := by
  unfold wb
  have h1 : (64 * i + j) / 64 = i := by omega
  have h2 : (64 * i + j) % 64 = j := by omega
  rw [h1, h2]
theorem getD_get {l : List UInt64} {i : Nat} (h : i < l.length) : l.getD i 0 = l[i] := by simp [List.getD_eq_getElem?_getD, List.getElem?_eq_getElem h]
theorem wm_of {w : List UInt64} {p : Nat → Bool} (hl : w.length = 1024) (h : ∀ x, x < 65536 → wb w x = p x) : w = wm p := by
  apply List.ext_getElem (by rw [hl, wm_length])
  intro i h1 h2
  apply u64_ext
  intro t ht
  have hi : i < 1024 := by omega
  have e := h (64 * i + t) (by omega)
  rw [← wb_at w i t ht] at e
  rw [← getD_get h1, ← getD_get h2, e, wm_word p i hi, wn_bit]
  simp [ht]
theorem wm_ext {p q : Nat → Bool} (h : ∀ x, x < 65536 → p x = q x) : wm p = wm q :=
  wm_of (wm_length p) fun x hx => (wb_wm p x hx).trans (h x hx)
theorem wb_set (w : List UInt64) (i : Nat) (y : UInt64) (hi : i < w.length) (x : Nat) : wb (w.set i y) x = if x / 64 = i then y.toNat.testBit (x % 64) else wb w x := by
  unfold wb
  rw [List.getD_eq_getElem?_getD, List.getElem?_set]
  by_cases h : x / 64 = i
  · subst h
    simp [hi]
  · rw [if_neg h, if_neg (fun e => h e.symm), List.getD_eq_getElem?_getD]
theorem wm_none : List.replicate 1024 (0 : UInt64) = wm fun _ => false := by
  refine wm_of List.length_replicate fun x hx => ?_
  unfold wb
  have : (List.replicate 1024 (0 : UInt64)).getD (x / 64) 0 = 0 := by
    rw [List.getD_eq_getElem?_getD, List.getElem?_replicate]
    split <;> simp
  rw [this]
  simp

/- Counting. -/
theorem ct_ext {p q : Nat → Bool} {n : Nat} (h : ∀ j, j < n → p j = q j) : ct p n = ct q n := by
  induction n with
  | zero => rfl
  | succ n ih => rw [ct, ct, ih (fun j hj => h j (by omega)), h n (by omega)]
theorem ct_add (p : Nat → Bool) (a b : Nat) : ct p (a + b) = ct p a + ct (fun j => p (a + j)) b := by
  induction b with
  | zero => simp [ct]
  | succ b ih => rw [← Nat.add_assoc, ct, ih, ct]; omega
theorem ct_le (p : Nat → Bool) (n : Nat) : ct p n ≤ n := by
  induction n with
  | zero => simp [ct]
  | succ n ih => rw [ct]; cases p n <;> simp <;> omega
theorem ct_zero {p : Nat → Bool} {n : Nat} (h : ∀ j, j < n → p j = false) : ct p n = 0 := by
  induction n with
  | zero => rfl
  | succ n ih => rw [ct, ih (fun j hj => h j (by omega)), h n (by omega)]; rfl
theorem ct_min (p : Nat → Bool) (n m : Nat) : ct (fun j => p j && decide (j < m)) n = ct p (min n m) := by
  induction n with
  | zero => simp [ct]
  | succ n ih =>
    rw [ct, ih]
    by_cases h : n < m
    · have e1 : min n m = n := by omega
      have e2 : min (n + 1) m = n + 1 := by omega
      rw [e1, e2, ct]
      simp [h]
    · have e1 : min n m = m := by omega
      have e2 : min (n + 1) m = m := by omega
      rw [e1, e2]
      simp [h]
theorem ls_ct (p : Nat → Bool) (n : Nat) : (ls p n).length = ct p n := by
  induction n with
  | zero => rfl
  | succ n ih =>
    rw [ls, List.length_append, ih, ct]
    cases p n <;> simp
theorem ls_ext {p q : Nat → Bool} {n : Nat} (h : ∀ j, j < n → p j = q j) : ls p n = ls q n := by
  induction n with
  | zero => rfl
  | succ n ih => rw [ls, ls, ih (fun j hj => h j (by omega)), h n (by omega)]
theorem ls_skip (p : Nat → Bool) {a b : Nat} (hab : a ≤ b) (h : ∀ j, a ≤ j → j < b → p j = false) : ls p b = ls p a := by
  obtain ⟨d, rfl⟩ := Nat.le.dest hab
  clear hab
  induction d with
  | zero => rfl
  | succ d ih =>
    rw [← Nat.add_assoc, ls, ih (fun j h1 h2 => h j h1 (by omega)), h (a + d) (by omega) (by omega)]
    simp
theorem ls_next (p : Nat → Bool) {a b : Nat} (hab : a ≤ b) (h : ∀ j, a ≤ j → j < b → p j = false) (hb : p b = true) : ls p (b + 1) = ls p a ++ [UInt16.ofNat b] := by
  rw [ls, ls_skip p hab h, hb]
  simp
theorem hm_ext {p q : Nat → Bool} {n : Nat} (h : ∀ j, j < n → p j = q j) : ∀ j, j < n → hm p j = hm q j := by
  intro j hj
  unfold hm
  rw [h j hj]
  by_cases h0 : j = 0
  · simp [h0]
  · rw [h (j - 1) (by omega)]

/- The lowest bit. -/
theorem low_bits {n : Nat} (h0 : n ≠ 0) (h : n < 18446744073709551616) : Lib.ctz 64 n < 64 ∧ n.testBit (Lib.ctz 64 n) = true ∧ (∀ j, j < Lib.ctz 64 n → n.testBit j = false) ∧
    ∀ j, (n &&& (n - 1)).testBit j = (n.testBit j && decide (Lib.ctz 64 n < j)) := by
  obtain ⟨m, hm, hk⟩ := Lib.ctzFrom_spec 64 n (by omega) h
  have e : Lib.ctz 64 n = Lib.ctzFrom 64 n := by simp [Lib.ctz, h0]
  rw [e]
  revert hm
  generalize Lib.ctzFrom 64 n = k at *
  intro hm
  have hbit : ∀ j, n.testBit j = (decide (k ≤ j) && (2 * m + 1).testBit (j - k)) := by
    intro j
    rw [hm, Nat.mul_comm, Nat.testBit_mul_two_pow]
  have hpred : n - 1 = 2 ^ k * (2 * m) + (2 ^ k - 1) := by
    rw [hm]
    have h2 := Nat.two_pow_pos k
    have : 2 ^ k * (2 * m + 1) = 2 ^ k * (2 * m) + 2 ^ k := by rw [Nat.mul_add, Nat.mul_one]
    omega
  refine ⟨hk, ?_, ?_, ?_⟩
  · rw [hbit]; simp
  · intro j hj
    rw [hbit]
    have : ¬ k ≤ j := by omega
    simp [this]
  · intro j
    have h2 := Nat.two_pow_pos k
    rw [Nat.testBit_and, hpred, Nat.testBit_two_pow_mul_add _ (by omega), hbit]
    rcases Nat.lt_trichotomy j k with h3 | h3 | h3
    · have : ¬ k ≤ j := by omega
      simp [this]
    · subst h3
      simp
    · obtain ⟨d, rfl⟩ : ∃ d, j = k + (d + 1) := ⟨j - k - 1, by omega⟩
      have a1 : k ≤ k + (d + 1) := by omega
      have a2 : ¬ k + (d + 1) < k := by omega
      have a3 : k + (d + 1) - k = d + 1 := by omega
      have a4 : k < k + (d + 1) := by omega
      have a5 : (2 * m + 1) / 2 = m := by omega
      have a6 : 2 * m / 2 = m := by omega
      simp only [a1, a2, a3, a4, decide_true, Bool.true_and, Bool.and_true, if_false, Nat.testBit_succ, a5, a6, Bool.and_self]
/- How many bits: the sum by halves, byte by byte. -/
theorem and_bytes (u v c d : Nat) (hu : u < 256) (hc : c < 256) : (u + 256 * v) &&& (c + 256 * d) = (u &&& c) + 256 * (v &&& d) := by
  have key : ∀ a b : Nat, a < 256 → ∀ t, (a + 256 * b).testBit t = if t < 8 then a.testBit t else b.testBit (t - 8) := by
    intro a b ha t
    have e : a + 256 * b = 2 ^ 8 * b + a := by omega
    rw [e, Nat.testBit_two_pow_mul_add _ (by omega)]
  have h3 : u &&& c < 256 := Nat.lt_of_le_of_lt Nat.and_le_left hu
  apply Nat.eq_of_testBit_eq
  intro t
  rw [Nat.testBit_and, key _ _ hu, key _ _ hc, key _ _ h3]
  split <;> rw [Nat.testBit_and]
def q1 (b : Nat) : Nat := (b / 2 &&& 85) + (b &&& 85)
def q2 (b : Nat) : Nat := (b / 4 &&& 51) + (b &&& 51)
def q3 (b : Nat) : Nat := b / 16 + b % 16
theorem q1_low : ∀ (a : Fin 256) (e : Fin 2), (a.val / 2 + 128 * e.val &&& 85) = (a.val / 2 &&& 85) := by decide +kernel
theorem q2_low : ∀ (a : Fin 256) (e : Fin 4), (a.val / 4 + 64 * e.val &&& 51) = (a.val / 4 &&& 51) := by decide +kernel
theorem q1_lt : ∀ a : Fin 256, q1 a.val < 256 := by decide +kernel
theorem q2_lt : ∀ a : Fin 256, q2 (q1 a.val) / 16 ≤ 4 ∧ q2 (q1 a.val) % 16 ≤ 4 := by decide +kernel
theorem q3_ct : ∀ a : Fin 256, q3 (q2 (q1 a.val)) = ct a.val.testBit 8 := by decide +kernel
theorem q1_step (a y c : Nat) (ha : a < 256) : ((a + 256 * y) / 2 &&& (85 + 256 * c)) + (a + 256 * y &&& (85 + 256 * c)) = q1 a + 256 * ((y / 2 &&& c) + (y &&& c)) := by
  have e : (a + 256 * y) / 2 = (a / 2 + 128 * (y % 2)) + 256 * (y / 2) := by omega
  have l := q1_low ⟨a, ha⟩ ⟨y % 2, by omega⟩
  simp only at l
  rw [e, and_bytes _ _ _ _ (by omega) (by omega), and_bytes _ _ _ _ ha (by omega), l]
  unfold q1
  omega
theorem q2_step (a y c : Nat) (ha : a < 256) : ((a + 256 * y) / 4 &&& (51 + 256 * c)) + (a + 256 * y &&& (51 + 256 * c)) = q2 a + 256 * ((y / 4 &&& c) + (y &&& c)) := by
  have e : (a + 256 * y) / 4 = (a / 4 + 64 * (y % 4)) + 256 * (y / 4) := by omega
  have l := q2_low ⟨a, ha⟩ ⟨y % 4, by omega⟩
  simp only at l
  rw [e, and_bytes _ _ _ _ (by omega) (by omega), and_bytes _ _ _ _ ha (by omega), l]
  unfold q2
  omega
theorem q1_zero (c : Nat) : (0 / 2 &&& c) + (0 &&& c) = 0 := by simp
theorem q2_zero (c : Nat) : (0 / 4 &&& c) + (0 &&& c) = 0 := by simp
/-- Eight bytes. -/
def by8 (a b c d e f g h : Nat) : Nat := a + 256 * (b + 256 * (c + 256 * (d + 256 * (e + 256 * (f + 256 * (g + 256 * (h + 256 * 0)))))))
theorem q1_all (a b c d e f g h : Nat) (h1 : a < 256) (h2 : b < 256) (h3 : c < 256) (h4 : d < 256) (h5 : e < 256) (h6 : f < 256) (h7 : g < 256) (h8 : h < 256) :
    (by8 a b c d e f g h / 2 &&& 6148914691236517205) + (by8 a b c d e f g h &&& 6148914691236517205) = by8 (q1 a) (q1 b) (q1 c) (q1 d) (q1 e) (q1 f) (q1 g) (q1 h) := by
  have m : 6148914691236517205 = by8 85 85 85 85 85 85 85 85 := by decide +kernel
  rw [m]
  unfold by8
  rw [q1_step _ _ _ h1, q1_step _ _ _ h2, q1_step _ _ _ h3, q1_step _ _ _ h4, q1_step _ _ _ h5, q1_step _ _ _ h6, q1_step _ _ _ h7, q1_step _ _ _ h8, q1_zero]
theorem q2_all (a b c d e f g h : Nat) (h1 : a < 256) (h2 : b < 256) (h3 : c < 256) (h4 : d < 256) (h5 : e < 256) (h6 : f < 256) (h7 : g < 256) (h8 : h < 256) :
    (by8 a b c d e f g h / 4 &&& 3689348814741910323) + (by8 a b c d e f g h &&& 3689348814741910323) = by8 (q2 a) (q2 b) (q2 c) (q2 d) (q2 e) (q2 f) (q2 g) (q2 h) := by
  have m : 3689348814741910323 = by8 51 51 51 51 51 51 51 51 := by decide +kernel
  rw [m]
  unfold by8
  rw [q2_step _ _ _ h1, q2_step _ _ _ h2, q2_step _ _ _ h3, q2_step _ _ _ h4, q2_step _ _ _ h5, q2_step _ _ _ h6, q2_step _ _ _ h7, q2_step _ _ _ h8, q2_zero]
theorem and15 (n : Nat) : n &&& 15 = n % 16 := Nat.and_two_pow_sub_one_eq_mod n 4
theorem q3_step (a y c t : Nat) (ha : a / 16 ≤ 4 ∧ a % 16 ≤ 4) (hy : t = y % 16) (ht : t ≤ 4) : ((a + 256 * y) / 16 + (a + 256 * y)) &&& (15 + 256 * c) = q3 a + 256 * ((y / 16 + y) &&& c) := by
  have e : (a + 256 * y) / 16 + (a + 256 * y) = (a / 16 + a + 16 * (y % 16)) + 256 * (y / 16 + y) := by omega
  rw [e, and_bytes _ _ _ _ (by omega) (by omega), and15]
  unfold q3
  omega
theorem q3_all (a b c d e f g h : Nat) (h1 : a / 16 ≤ 4 ∧ a % 16 ≤ 4) (h2 : b / 16 ≤ 4 ∧ b % 16 ≤ 4) (h3 : c / 16 ≤ 4 ∧ c % 16 ≤ 4) (h4 : d / 16 ≤ 4 ∧ d % 16 ≤ 4) (h5 : e / 16 ≤ 4 ∧ e % 16 ≤ 4) (h6 : f / 16 ≤ 4 ∧ f % 16 ≤ 4) (h7 : g / 16 ≤ 4 ∧ g % 16 ≤ 4) (h8 : h / 16 ≤ 4 ∧ h % 16 ≤ 4) :
    (by8 a b c d e f g h / 16 + by8 a b c d e f g h) &&& 1085102592571150095 = by8 (q3 a) (q3 b) (q3 c) (q3 d) (q3 e) (q3 f) (q3 g) (q3 h) := by
  have m : 1085102592571150095 = by8 15 15 15 15 15 15 15 15 := by decide +kernel
  have r : ∀ (u v : Nat), (u + 256 * v) % 16 = u % 16 := by intro u v; omega
  rw [m]
  unfold by8
  rw [q3_step a _ _ _ h1 (r _ _).symm h2.2, q3_step b _ _ _ h2 (r _ _).symm h3.2, q3_step c _ _ _ h3 (r _ _).symm h4.2, q3_step d _ _ _ h4 (r _ _).symm h5.2, q3_step e _ _ _ h5 (r _ _).symm h6.2, q3_step f _ _ _ h6 (r _ _).symm h7.2, q3_step g _ _ _ h7 (r _ _).symm h8.2, q3_step h _ _ 0 h8 (by simp) (by omega)]
  simp
theorem by8_add (a b c d e f g h a' b' c' d' e' f' g' h' : Nat) : by8 a b c d e f g h + by8 a' b' c' d' e' f' g' h' = by8 (a + a') (b + b') (c + c') (d + d') (e + e') (f + f') (g + g') (h + h') := by
  unfold by8
  omega
theorem by8_div (a b c d e f g h : Nat) (h1 : a < 256) : by8 a b c d e f g h / 256 = by8 b c d e f g h 0 := by
  have e1 : by8 a b c d e f g h = a + 256 * by8 b c d e f g h 0 := by simp only [by8, Nat.mul_zero, Nat.add_zero]
  omega
theorem by8_mod (a b c d e f g h : Nat) (h1 : a < 128) : by8 a b c d e f g h % 128 = a := by
  have e1 : by8 a b c d e f g h = a + 256 * by8 b c d e f g h 0 := by simp only [by8, Nat.mul_zero, Nat.add_zero]
  omega
theorem by8_lt (a b c d e f g h : Nat) (h1 : a < 256) (h2 : b < 256) (h3 : c < 256) (h4 : d < 256) (h5 : e < 256) (h6 : f < 256) (h7 : g < 256) (h8 : h < 256) : by8 a b c d e f g h < 18446744073709551616 := by
  have s : ∀ x y K : Nat, x < 256 → y < K → x + 256 * y < 256 * K := by omega
  exact Nat.lt_of_lt_of_eq (s _ _ _ h1 (s _ _ _ h2 (s _ _ _ h3 (s _ _ _ h4 (s _ _ _ h5 (s _ _ _ h6 (s _ _ _ h7 (s _ _ _ h8 (Nat.zero_lt_one))))))))) (by decide +kernel)
theorem div2 (n : Nat) : n / 65536 = n / 256 / 256 := by omega
theorem div4 (n : Nat) : n / 4294967296 = n / 256 / 256 / 256 / 256 := by omega
theorem sum_all (a b c d e f g h : Nat) (h1 : a ≤ 8) (h2 : b ≤ 8) (h3 : c ≤ 8) (h4 : d ≤ 8) (h5 : e ≤ 8) (h6 : f ≤ 8) (h7 : g ≤ 8) (h8 : h ≤ 8) (s t u : Nat)
    (hs : s = by8 a b c d e f g h + by8 a b c d e f g h / 256) (ht : t = s + s / 65536) (hu : u = t + t / 4294967296) : u % 128 = a + b + c + d + e + f + g + h ∧ s < 18446744073709551616 ∧ t < 18446744073709551616 ∧ u < 18446744073709551616 := by
  rw [by8_div _ _ _ _ _ _ _ _ (by omega), by8_add] at hs
  rw [hs, div2, by8_div _ _ _ _ _ _ _ _ (by omega), by8_div _ _ _ _ _ _ _ _ (by omega), by8_add] at ht
  rw [ht, div4, by8_div _ _ _ _ _ _ _ _ (by omega), by8_div _ _ _ _ _ _ _ _ (by omega), by8_div _ _ _ _ _ _ _ _ (by omega), by8_div _ _ _ _ _ _ _ _ (by omega), by8_add] at hu
  refine ⟨?_, ?_, ?_, ?_⟩
  · rw [hu, by8_mod _ _ _ _ _ _ _ _ (by omega)]
    omega
  · rw [hs]
    exact by8_lt _ _ _ _ _ _ _ _ (by omega) (by omega) (by omega) (by omega) (by omega) (by omega) (by omega) (by omega)
  · rw [ht]
    exact by8_lt _ _ _ _ _ _ _ _ (by omega) (by omega) (by omega) (by omega) (by omega) (by omega) (by omega) (by omega)
  · rw [hu]
    exact by8_lt _ _ _ _ _ _ _ _ (by omega) (by omega) (by omega) (by omega) (by omega) (by omega) (by omega) (by omega)
/-- The bytes of a number. -/
theorem by8_of (x : Nat) (h : x < 18446744073709551616) : x = by8 (x % 256) (x / 256 % 256) (x / 65536 % 256) (x / 16777216 % 256) (x / 4294967296 % 256) (x / 1099511627776 % 256) (x / 281474976710656 % 256) (x / 72057594037927936) := by
  unfold by8
  omega
theorem ct_byte (x k : Nat) : ct (x / 2 ^ k % 256).testBit 8 = ct (fun j => x.testBit (k + j)) 8 := by
  refine ct_ext fun j hj => ?_
  have : (256 : Nat) = 2 ^ 8 := rfl
  rw [this, Nat.testBit_mod_two_pow, Nat.testBit_div_two_pow, Nat.add_comm]
  simp [hj]
theorem ct_bytes (x : Nat) : ct x.testBit 64 = ct (x % 256).testBit 8 + ct (x / 256 % 256).testBit 8 + ct (x / 65536 % 256).testBit 8 + ct (x / 16777216 % 256).testBit 8 + ct (x / 4294967296 % 256).testBit 8 + ct (x / 1099511627776 % 256).testBit 8 + ct (x / 281474976710656 % 256).testBit 8 + ct (x / 72057594037927936 % 256).testBit 8 := by
  have b0 : ct (x % 256).testBit 8 = ct x.testBit 8 := ct_ext fun j hj => by
    have : (256 : Nat) = 2 ^ 8 := rfl
    rw [this, Nat.testBit_mod_two_pow]
    simp [hj]
  have b1 := ct_byte x 8
  have b2 := ct_byte x 16
  have b3 := ct_byte x 24
  have b4 := ct_byte x 32
  have b5 := ct_byte x 40
  have b6 := ct_byte x 48
  have b7 := ct_byte x 56
  have s1 := ct_add x.testBit 56 8
  have s2 := ct_add x.testBit 48 8
  have s3 := ct_add x.testBit 40 8
  have s4 := ct_add x.testBit 32 8
  have s5 := ct_add x.testBit 24 8
  have s6 := ct_add x.testBit 16 8
  have s7 := ct_add x.testBit 8 8
  simp only [Nat.reduceAdd, Nat.reducePow] at *
  omega
/-- The sum by halves is how many bits there are. -/
theorem pop_all (x s1 s2 s3 s4 s5 s6 : Nat) (h : x < 18446744073709551616) (e1 : s1 = (x / 2 &&& 6148914691236517205) + (x &&& 6148914691236517205)) (e2 : s2 = (s1 / 4 &&& 3689348814741910323) + (s1 &&& 3689348814741910323))
    (e3 : s3 = (s2 / 16 + s2) &&& 1085102592571150095) (e4 : s4 = s3 + s3 / 256) (e5 : s5 = s4 + s4 / 65536) (e6 : s6 = s5 + s5 / 4294967296) :
    s6 % 128 = ct x.testBit 64 ∧ s1 < 18446744073709551616 ∧ s2 / 16 + s2 < 18446744073709551616 ∧ s4 < 18446744073709551616 ∧ s5 < 18446744073709551616 ∧ s6 < 18446744073709551616 := by
  have key : ∀ a : Nat, a < 256 → q1 a < 256 ∧ (q2 (q1 a) / 16 ≤ 4 ∧ q2 (q1 a) % 16 ≤ 4) ∧ q3 (q2 (q1 a)) = ct a.testBit 8 ∧ ct a.testBit 8 ≤ 8 := by
    intro a ha
    have k1 := q1_lt ⟨a, ha⟩
    exact ⟨k1, q2_lt ⟨a, ha⟩, q3_ct ⟨a, ha⟩, ct_le _ 8⟩
  have hc := ct_bytes x
  have e0 := by8_of x h
  have k1 := key (x % 256) (by omega)
  have hm1 : x % 256 < 256 := by omega
  have hm2 : x / 256 % 256 < 256 := by omega
  have hm3 : x / 65536 % 256 < 256 := by omega
  have hm4 : x / 16777216 % 256 < 256 := by omega
  have hm5 : x / 4294967296 % 256 < 256 := by omega
  have hm6 : x / 1099511627776 % 256 < 256 := by omega
  have hm7 : x / 281474976710656 % 256 < 256 := by omega
  have hm8 : x / 72057594037927936 < 256 := by omega
  have k2 := key (x / 256 % 256) (by omega)
  have k3 := key (x / 65536 % 256) (by omega)
  have k4 := key (x / 16777216 % 256) (by omega)
  have k5 := key (x / 4294967296 % 256) (by omega)
  have k6 := key (x / 1099511627776 % 256) (by omega)
  have k7 := key (x / 281474976710656 % 256) (by omega)
  have k8 := key (x / 72057594037927936) (by omega)
  have h8 : x / 72057594037927936 % 256 = x / 72057594037927936 := by omega
  rw [h8] at hc
  generalize x % 256 = a at *
  generalize x / 256 % 256 = b at *
  generalize x / 65536 % 256 = c at *
  generalize x / 16777216 % 256 = d at *
  generalize x / 4294967296 % 256 = e at *
  generalize x / 1099511627776 % 256 = f at *
  generalize x / 281474976710656 % 256 = g at *
  generalize x / 72057594037927936 = i at *
  rw [e0, q1_all a b c d e f g i hm1 hm2 hm3 hm4 hm5 hm6 hm7 hm8] at e1
  have l1 : s1 < 18446744073709551616 := by rw [e1]; exact by8_lt _ _ _ _ _ _ _ _ k1.1 k2.1 k3.1 k4.1 k5.1 k6.1 k7.1 k8.1
  rw [e1, q2_all _ _ _ _ _ _ _ _ k1.1 k2.1 k3.1 k4.1 k5.1 k6.1 k7.1 k8.1] at e2
  have l2 : s2 / 16 + s2 < 18446744073709551616 := by
    have m : s2 ≤ by8 68 68 68 68 68 68 68 68 := by
      rw [e2]
      unfold by8
      omega
    have m2 : by8 68 68 68 68 68 68 68 68 < 4919131752989213765 := by decide +kernel
    omega
  rw [e2, q3_all _ _ _ _ _ _ _ _ k1.2.1 k2.2.1 k3.2.1 k4.2.1 k5.2.1 k6.2.1 k7.2.1 k8.2.1, k1.2.2.1, k2.2.2.1, k3.2.2.1, k4.2.2.1, k5.2.2.1, k6.2.2.1, k7.2.2.1, k8.2.2.1] at e3
  rw [e3] at e4
  obtain ⟨r1, r2, r3, r4⟩ := sum_all _ _ _ _ _ _ _ _ k1.2.2.2 k2.2.2.2 k3.2.2.2 k4.2.2.2 k5.2.2.2 k6.2.2.2 k7.2.2.2 k8.2.2.2 s4 s5 s6 e4 e5 e6
  exact ⟨by omega, l1, l2, r2, r3, r4⟩
end Go.Proofs.YtponcpneflhpfaaGreatDoor
