/- Plain mathematics: the edges of two rows of runs gone through side by side. No Go in sight. -/
import Derived.WalkKit
import Derived.Lib.TrailingZeros
/- Plain mathematics: rising rows of numbers from 0 to 65535. No Go in sight. -/
namespace Go.Proofs.YtfefmlnlicilbaaGreatDoor

/-- The row rises. -/
def ris : List UInt16 → Bool
  | x :: y :: l => decide (x.toNat < y.toNat) && ris (y :: l)
  | _ => true
theorem u16_eq {x y : UInt16} (h : x.toNat = y.toNat) : x = y := UInt16.toNat_inj.1 h
theorem u16_lt (x : UInt16) : x.toNat < 65536 := x.toNat_lt
theorem u16_of (n : Nat) (h : n < 65536) : (UInt16.ofNat n).toNat = n := by simp; omega
theorem ris_tail {x : UInt16} {l : List UInt16} (h : ris (x :: l) = true) : ris l = true := by
  cases l with
  | nil => rfl
  | cons y l => simp [ris] at h; exact h.2
theorem ris_lt {x : UInt16} {l : List UInt16} (h : ris (x :: l) = true) : ∀ y ∈ l, x.toNat < y.toNat := by
  induction l generalizing x with
  | nil => intro y hy; cases hy
  | cons z l ih =>
    simp [ris] at h
    intro y hy
    rcases List.mem_cons.1 hy with rfl | hy
    · exact h.1
    · have := ih h.2 y hy
      omega
theorem ris_cons {x : UInt16} {l : List UInt16} (h1 : ∀ y ∈ l, x.toNat < y.toNat) (h2 : ris l = true) : ris (x :: l) = true := by
  cases l with
  | nil => rfl
  | cons z l =>
    simp [ris]
    exact ⟨h1 z (by simp), h2⟩
theorem ris_iff {x : UInt16} {l : List UInt16} : ris (x :: l) = true ↔ (∀ y ∈ l, x.toNat < y.toNat) ∧ ris l = true :=
  ⟨fun h => ⟨ris_lt h, ris_tail h⟩, fun h => ris_cons h.1 h.2⟩
theorem ris_ext {a b : List UInt16} (ha : ris a = true) (hb : ris b = true) (h : ∀ z, z ∈ a ↔ z ∈ b) : a = b := by
  induction a generalizing b with
  | nil =>
    cases b with
    | nil => rfl
    | cons y b => exact absurd ((h y).2 (by simp)) (by simp)
  | cons x a ih =>
    cases b with
    | nil => exact absurd ((h x).1 (by simp)) (by simp)
    | cons y b =>
      have h1 := ris_lt ha
      have h2 := ris_lt hb
      have e : x = y := by
        apply u16_eq
        have hx := (h x).1 (by simp)
        have hy := (h y).2 (by simp)
        rcases List.mem_cons.1 hx with rfl | hx
        · rfl
        rcases List.mem_cons.1 hy with rfl | hy
        · rfl
        have := h1 y hy
        have := h2 x hx
        omega
      subst e
      rw [ih (ris_tail ha) (ris_tail hb) fun z => ?_]
      constructor
      · intro hz
        rcases List.mem_cons.1 ((h z).1 (by simp [hz])) with rfl | h3
        · have := h1 z hz; omega
        · exact h3
      · intro hz
        rcases List.mem_cons.1 ((h z).2 (by simp [hz])) with rfl | h3
        · have := h2 z hz; omega
        · exact h3
theorem ris_filter (p : UInt16 → Bool) {l : List UInt16} (h : ris l = true) : ris (l.filter p) = true := by
  induction l with
  | nil => rfl
  | cons x l ih =>
    rw [List.filter_cons]
    split
    · exact ris_cons (fun y hy => ris_lt h y (List.mem_filter.1 hy).1) (ih (ris_tail h))
    · exact ih (ris_tail h)
theorem ris_nodup {l : List UInt16} (h : ris l = true) : l.Nodup := by
  induction l with
  | nil => exact List.nodup_nil
  | cons x l ih =>
    refine List.nodup_cons.2 ⟨fun hx => ?_, ih (ris_tail h)⟩
    have := ris_lt h x hx
    omega
theorem ris_app {a b : List UInt16} (ha : ris a = true) (hb : ris b = true) (h : ∀ x ∈ a, ∀ y ∈ b, x.toNat < y.toNat) : ris (a ++ b) = true := by
  induction a with
  | nil => exact hb
  | cons x a ih =>
    rw [List.cons_append]
    refine ris_cons (fun y hy => ?_) (ih (ris_tail ha) fun z hz => h z (by simp [hz]))
    rcases List.mem_append.1 hy with hy | hy
    · exact ris_lt ha y hy
    · exact h x (by simp) y hy
theorem ris_split {a b : List UInt16} (h : ris (a ++ b) = true) : ris a = true ∧ ris b = true ∧ ∀ x ∈ a, ∀ y ∈ b, x.toNat < y.toNat := by
  induction a with
  | nil => exact ⟨rfl, h, fun x hx => by cases hx⟩
  | cons x a ih =>
    rw [List.cons_append] at h
    have h1 := ris_lt h
    obtain ⟨h2, h3, h4⟩ := ih (ris_tail h)
    refine ⟨ris_cons (fun y hy => h1 y (by simp [hy])) h2, h3, fun z hz y hy => ?_⟩
    rcases List.mem_cons.1 hz with rfl | hz
    · exact h1 y (by simp [hy])
    · exact h4 z hz y hy

/-- Two rows side by side: the numbers of which f says yes. -/
def mg (f : Bool → Bool → Bool) : List UInt16 → List UInt16 → List UInt16
  | [], [] => []
  | x :: a, [] => (if f true false then [x] else []) ++ mg f a []
  | [], y :: b => (if f false true then [y] else []) ++ mg f [] b
  | x :: a, y :: b =>
    if x.toNat < y.toNat then (if f true false then [x] else []) ++ mg f a (y :: b)
    else if y.toNat < x.toNat then (if f false true then [y] else []) ++ mg f (x :: a) b
    else (if f true true then [x] else []) ++ mg f a b
termination_by a b => a.length + b.length
theorem mem_ite1 (c : Bool) (x z : UInt16) : z ∈ (if c = true then [x] else []) ↔ z = x ∧ c = true := by cases c <;> simp
theorem mg_sub (f : Bool → Bool → Bool) (a b : List UInt16) : ∀ z ∈ mg f a b, z ∈ a ∨ z ∈ b := by
  fun_induction mg f a b with
  | case1 => intro z hz; cases hz
  | case2 x a ih =>
    intro z hz
    rw [List.mem_append, mem_ite1] at hz
    rcases hz with ⟨rfl, _⟩ | hz
    · simp
    · have := ih z hz; simp_all
  | case3 y b ih =>
    intro z hz
    rw [List.mem_append, mem_ite1] at hz
    rcases hz with ⟨rfl, _⟩ | hz
    · simp
    · have := ih z hz; simp_all
  | case4 x a y b h ih =>
    intro z hz
    rw [List.mem_append, mem_ite1] at hz
    rcases hz with ⟨rfl, _⟩ | hz
    · simp
    · rcases ih z hz with h | h
      · simp [h]
      · exact .inr h
  | case5 x a y b h1 h2 ih =>
    intro z hz
    rw [List.mem_append, mem_ite1] at hz
    rcases hz with ⟨rfl, _⟩ | hz
    · simp
    · rcases ih z hz with h | h
      · exact .inl h
      · simp [h]
  | case6 x a y b h1 h2 ih =>
    intro z hz
    rw [List.mem_append, mem_ite1] at hz
    rcases hz with ⟨rfl, _⟩ | hz
    · simp
    · rcases ih z hz with h | h <;> simp [h]
theorem ris_mg (f : Bool → Bool → Bool) {a b : List UInt16} (ha : ris a = true) (hb : ris b = true) : ris (mg f a b) = true := by
  have key : ∀ (c : Bool) (x : UInt16) (l : List UInt16), (∀ y ∈ l, x.toNat < y.toNat) → ris l = true → ris ((if c = true then [x] else []) ++ l) = true := by
    intro c x l h1 h2
    cases c
    · exact h2
    · exact ris_cons h1 h2
  fun_induction mg f a b with
  | case1 => rfl
  | case2 x a ih => exact key _ _ _ (fun y hy => by rcases mg_sub f _ _ y hy with h | h; exact ris_lt ha y h; cases h) (ih (ris_tail ha) rfl)
  | case3 y b ih => exact key _ _ _ (fun z hz => by rcases mg_sub f _ _ z hz with h | h; cases h; exact ris_lt hb z h) (ih rfl (ris_tail hb))
  | case4 x a y b h ih =>
    refine key _ _ _ (fun z hz => ?_) (ih (ris_tail ha) hb)
    rcases mg_sub f _ _ z hz with h | h
    · exact ris_lt ha z h
    · rcases List.mem_cons.1 h with rfl | h
      · omega
      · have := ris_lt hb z h; omega
  | case5 x a y b h1 h2 ih =>
    refine key _ _ _ (fun z hz => ?_) (ih ha (ris_tail hb))
    rcases mg_sub f _ _ z hz with h | h
    · rcases List.mem_cons.1 h with rfl | h
      · omega
      · have := ris_lt ha z h; omega
    · exact ris_lt hb z h
  | case6 x a y b h1 h2 ih =>
    refine key _ _ _ (fun z hz => ?_) (ih (ris_tail ha) (ris_tail hb))
    rcases mg_sub f _ _ z hz with h | h
    · exact ris_lt ha z h
    · have := ris_lt hb z h; omega
theorem mg_mem (f : Bool → Bool → Bool) (hf : f false false = false) {a b : List UInt16} (ha : ris a = true) (hb : ris b = true) (z : UInt16) :
    z ∈ mg f a b ↔ f (decide (z ∈ a)) (decide (z ∈ b)) = true := by
  fun_induction mg f a b with
  | case1 => simp [hf]
  | case2 x a ih =>
    have h1 := ris_lt ha
    rw [List.mem_append, mem_ite1, ih (ris_tail ha) rfl]
    by_cases h : z = x
    · subst h
      have : z ∉ a := fun h => by have := h1 z h; omega
      simp [this, hf]
    · simp [h]
  | case3 y b ih =>
    have h1 := ris_lt hb
    rw [List.mem_append, mem_ite1, ih rfl (ris_tail hb)]
    by_cases h : z = y
    · subst h
      have : z ∉ b := fun h => by have := h1 z h; omega
      simp [this, hf]
    · simp [h]
  | case4 x a y b hxy ih =>
    have h1 := ris_lt ha
    have h2 := ris_lt hb
    rw [List.mem_append, mem_ite1, ih (ris_tail ha) hb]
    by_cases h : z = x
    · subst h
      have h3 : z ∉ a := fun h => by have := h1 z h; omega
      have h4 : z ∉ b := fun h => by have := h2 z h; omega
      have h5 : z ≠ y := by rintro rfl; omega
      simp [h3, h4, h5, hf]
    · simp [h]
  | case5 x a y b h0 hyx ih =>
    have h1 := ris_lt ha
    have h2 := ris_lt hb
    rw [List.mem_append, mem_ite1, ih ha (ris_tail hb)]
    by_cases h : z = y
    · subst h
      have h3 : z ∉ a := fun h => by have := h1 z h; omega
      have h4 : z ∉ b := fun h => by have := h2 z h; omega
      have h5 : z ≠ x := by rintro rfl; omega
      simp [h3, h4, h5, hf]
    · simp [h]
  | case6 x a y b h0 h0' ih =>
    have h1 := ris_lt ha
    have h2 := ris_lt hb
    obtain rfl : x = y := u16_eq (by omega)
    rw [List.mem_append, mem_ite1, ih (ris_tail ha) (ris_tail hb)]
    by_cases h : z = x
    · subst h
      have h3 : z ∉ a := fun h => by have := h1 z h; omega
      have h4 : z ∉ b := fun h => by have := h2 z h; omega
      simp [h3, h4, hf]
    · simp [h]

def fAnd (x y : Bool) : Bool := x && y
def fOr (x y : Bool) : Bool := x || y
def fNot (x y : Bool) : Bool := x && !y
def fXor (x y : Bool) : Bool := x != y
theorem mg_len (a b : List UInt16) : (mg fAnd a b).length + (mg fOr a b).length = a.length + b.length := by
  fun_induction mg fAnd a b with
  | case1 => simp [mg]
  | case2 x a ih => rw [mg]; simp [fAnd, fOr] at ih ⊢; omega
  | case3 y b ih => rw [mg]; simp [fAnd, fOr] at ih ⊢; omega
  | case4 x a y b h ih => rw [mg, if_pos h]; simp [fAnd, fOr] at ih ⊢; omega
  | case5 x a y b h h2 ih => rw [mg, if_neg h, if_pos h2]; simp [fAnd, fOr] at ih ⊢; omega
  | case6 x a y b h h2 ih => rw [mg, if_neg h, if_neg h2]; simp [fAnd, fOr] at ih ⊢; omega
theorem mg_le (f : Bool → Bool → Bool) (a b : List UInt16) : (mg f a b).length ≤ a.length + b.length := by
  have key : ∀ (c : Bool) (x : UInt16), (if c = true then [x] else []).length ≤ 1 := by intro c x; cases c <;> simp
  fun_induction mg f a b with
  | case1 => simp
  | case2 x a ih => have := key (f true false) x; simp only [List.length_append, List.length_cons, List.length_nil] at ih ⊢; omega
  | case3 y b ih => have := key (f false true) y; simp only [List.length_append, List.length_cons, List.length_nil] at ih ⊢; omega
  | case4 x a y b h ih => have := key (f true false) x; simp only [List.length_append, List.length_cons] at ih ⊢; omega
  | case5 x a y b h h2 ih => have := key (f false true) y; simp only [List.length_append, List.length_cons] at ih ⊢; omega
  | case6 x a y b h h2 ih => have := key (f true true) x; simp only [List.length_append, List.length_cons] at ih ⊢; omega
end Go.Proofs.YtfefmlnlicilbaaGreatDoor
/- Plain mathematics: the search by halves, a number put in, runs, marks. No Go in sight. -/
namespace Go.Proofs.YtfefmlnlicilbaaGreatDoor

/-- The number at a place. -/
def at16 (l : List UInt16) (k : Nat) : UInt16 := l.getD k 0
/-- The search by halves between i and j. -/
def bsr (l : List UInt16) (x : UInt16) : Nat → Nat → Nat → Nat
  | 0, i, _ => i
  | f + 1, i, j => if i < j then (if (at16 l ((i + j) / 2)).toNat < x.toNat then bsr l x f ((i + j) / 2 + 1) j else bsr l x f i ((i + j) / 2)) else i
def bs (l : List UInt16) (x : UInt16) : Nat := bsr l x l.length 0 l.length
def fd (l : List UInt16) (x : UInt16) : Bool := decide (bs l x < l.length) && decide ((at16 l (bs l x)).toNat = x.toNat)
theorem bsr_le (l : List UInt16) (x : UInt16) (f i j : Nat) (h : i ≤ j) : i ≤ bsr l x f i j ∧ bsr l x f i j ≤ j := by
  induction f generalizing i j with
  | zero => exact ⟨Nat.le_refl _, h⟩
  | succ f ih =>
    unfold bsr
    split
    · split
      · have := ih ((i + j) / 2 + 1) j (by omega)
        omega
      · have := ih i ((i + j) / 2) (by omega)
        omega
    · omega
theorem bs_le (l : List UInt16) (x : UInt16) : bs l x ≤ l.length := (bsr_le l x _ 0 _ (Nat.zero_le _)).2
theorem at16_eq {l : List UInt16} {k : Nat} {y : UInt16} (h : l[k]? = some y) : at16 l k = y := by simp [at16, List.getD, h]
theorem at16_get {l : List UInt16} {k : Nat} (h : k < l.length) : l[k]? = some (at16 l k) := by rw [List.getElem?_eq_getElem h]; simp [at16, List.getD, h]
theorem ris_at {l : List UInt16} (h : ris l = true) {i j : Nat} (hi : i < j) (hj : j < l.length) : (at16 l i).toNat < (at16 l j).toNat := by
  induction l generalizing i j with
  | nil => simp at hj
  | cons x l ih =>
    cases j with
    | zero => omega
    | succ j =>
      simp at hj
      have e : at16 (x :: l) (j + 1) = at16 l j := by simp [at16]
      rw [e]
      cases i with
      | zero =>
        have e : at16 (x :: l) 0 = x := by simp [at16]
        rw [e]
        exact ris_lt h _ (List.mem_of_getElem? (at16_get hj))
      | succ i =>
        have e : at16 (x :: l) (i + 1) = at16 l i := by simp [at16]
        rw [e]
        exact ih (ris_tail h) (by omega) hj
theorem bsr_split {l : List UInt16} (h : ris l = true) (x : UInt16) (f i j : Nat) (hij : i ≤ j) (hj : j ≤ l.length) (hf : j - i ≤ f)
    (h1 : ∀ k, k < i → (at16 l k).toNat < x.toNat) (h2 : ∀ k, j ≤ k → k < l.length → x.toNat ≤ (at16 l k).toNat) :
    (∀ k, k < bsr l x f i j → (at16 l k).toNat < x.toNat) ∧ ∀ k, bsr l x f i j ≤ k → k < l.length → x.toNat ≤ (at16 l k).toNat := by
  induction f generalizing i j with
  | zero =>
    obtain rfl : i = j := by omega
    exact ⟨h1, h2⟩
  | succ f ih =>
    unfold bsr
    split
    · rename_i hlt
      split
      · rename_i hm
        refine ih _ _ (by omega) hj (by omega) (fun k hk => ?_) h2
        rcases Nat.lt_or_ge k ((i + j) / 2) with h3 | h3
        · have := ris_at h h3 (by omega)
          omega
        · obtain rfl : k = (i + j) / 2 := by omega
          exact hm
      · rename_i hm
        refine ih _ _ (by omega) (by omega) (by omega) h1 (fun k hk hk2 => ?_)
        rcases Nat.lt_or_ge ((i + j) / 2) k with h3 | h3
        · have := ris_at h h3 hk2
          omega
        · obtain rfl : k = (i + j) / 2 := by omega
          omega
    · obtain rfl : i = j := by omega
      exact ⟨h1, h2⟩
theorem bs_take {l : List UInt16} (h : ris l = true) (x : UInt16) : ∀ y ∈ l.take (bs l x), y.toNat < x.toNat := by
  have := (bsr_split h x l.length 0 l.length (Nat.zero_le _) (Nat.le_refl _) (by omega) (fun k hk => by omega) (fun k h1 h2 => by omega)).1
  intro y hy
  obtain ⟨k, hk⟩ := List.mem_iff_getElem?.1 hy
  rw [List.getElem?_take] at hk
  split at hk
  · rw [← at16_eq hk]
    exact this k (by assumption)
  · cases hk
theorem bs_drop {l : List UInt16} (h : ris l = true) (x : UInt16) : ∀ y ∈ l.drop (bs l x), x.toNat ≤ y.toNat := by
  have := (bsr_split h x l.length 0 l.length (Nat.zero_le _) (Nat.le_refl _) (by omega) (fun k hk => by omega) (fun k h1 h2 => by omega)).2
  intro y hy
  obtain ⟨k, hk⟩ := List.mem_iff_getElem?.1 hy
  rw [List.getElem?_drop] at hk
  rw [← at16_eq hk]
  exact this _ (by unfold bs; omega) (List.getElem?_eq_some_iff.1 hk).1
theorem bs_count {l : List UInt16} (h : ris l = true) (x : UInt16) : bs l x = (l.filter fun y => decide (y.toNat < x.toNat)).length := by
  have h1 := bs_take h x
  have h2 := bs_drop h x
  have h3 := bs_le l x
  conv => rhs; rw [← List.take_append_drop (bs l x) l]
  rw [List.filter_append, List.filter_eq_self.2 (by simpa using h1), List.filter_eq_nil_iff.2 (fun y hy => by have := h2 y hy; simp; omega)]
  simp
  omega
theorem fd_mem {l : List UInt16} (h : ris l = true) (x : UInt16) : fd l x = decide (x ∈ l) := by
  have h1 := bs_take h x
  have h2 := bs_drop h x
  rw [Bool.eq_iff_iff]
  simp only [fd, Bool.and_eq_true, decide_eq_true_eq]
  constructor
  · rintro ⟨h3, h4⟩
    have := at16_get h3
    rw [u16_eq h4] at this
    exact List.mem_of_getElem? this
  · intro hx
    rw [← List.take_append_drop (bs l x) l] at hx
    rcases List.mem_append.1 hx with hx | hx
    · have := h1 x hx; omega
    · have hlt : bs l x < l.length := by
        rcases Nat.lt_or_ge (bs l x) l.length with h | h
        · exact h
        · rw [List.drop_eq_nil_of_le h] at hx; cases hx
      refine ⟨hlt, ?_⟩
      have h5 : at16 l (bs l x) ∈ l.drop (bs l x) := by
        refine List.mem_iff_getElem?.2 ⟨0, ?_⟩
        rw [List.getElem?_drop]
        exact at16_get hlt
      have h6 := h2 _ h5
      obtain ⟨k, hk⟩ := List.mem_iff_getElem?.1 hx
      rw [List.getElem?_drop] at hk
      rcases Nat.eq_zero_or_pos k with rfl | hk0
      · rw [Nat.add_zero] at hk; rw [at16_eq hk]
      · have := ris_at h (i := bs l x) (j := bs l x + k) (by omega) (List.getElem?_eq_some_iff.1 hk).1
        rw [at16_eq hk] at this
        omega

/-- The row with x. -/
def wi (l : List UInt16) (x : UInt16) : List UInt16 := if fd l x = true then l else l.take (bs l x) ++ x :: l.drop (bs l x)
theorem wi_mem {l : List UInt16} (h : ris l = true) (x z : UInt16) : z ∈ wi l x ↔ z = x ∨ z ∈ l := by
  unfold wi
  split
  · rename_i hx
    rw [fd_mem h, decide_eq_true_eq] at hx
    exact ⟨.inr, fun hz => by rcases hz with rfl | hz <;> assumption⟩
  · conv => rhs; rw [← List.take_append_drop (bs l x) l]
    simp only [List.mem_append, List.mem_cons]
    exact ⟨fun h => by rcases h with h | h | h <;> simp [h], fun h => by rcases h with h | h | h <;> simp [h]⟩
theorem ris_wi {l : List UInt16} (h : ris l = true) (x : UInt16) : ris (wi l x) = true := by
  unfold wi
  split
  · exact h
  · rename_i hx
    rw [fd_mem h, decide_eq_true_eq] at hx
    have h1 := bs_take h x
    have h2 := bs_drop h x
    obtain ⟨h3, h4, h5⟩ := ris_split (a := l.take (bs l x)) (b := l.drop (bs l x)) (by rw [List.take_append_drop]; exact h)
    refine ris_app h3 (ris_cons (fun y hy => ?_) h4) (fun y hy z hz => ?_)
    · have := h2 y hy
      rcases Nat.lt_or_ge x.toNat y.toNat with h | h
      · exact h
      · have e : y = x := u16_eq (by omega)
        exact absurd (e ▸ List.mem_of_mem_drop hy) hx
    · rcases List.mem_cons.1 hz with rfl | hz
      · exact h1 y hy
      · exact h5 y hy z hz
theorem wi_len (l : List UInt16) (x : UInt16) : (wi l x).length = l.length + (if fd l x = true then 0 else 1) := by
  have := bs_le l x
  unfold wi
  split
  · rfl
  · simp; omega
theorem wi_bs {l : List UInt16} (h : ris l = true) (x : UInt16) : bs (wi l x) x = bs l x := by
  rw [bs_count (ris_wi h x), bs_count h]
  congr 1
  refine ris_ext (ris_filter _ (ris_wi h x)) (ris_filter _ h) fun z => ?_
  simp only [List.mem_filter, wi_mem h, decide_eq_true_eq]
  exact ⟨fun ⟨h1, h2⟩ => ⟨by rcases h1 with rfl | h1; omega; exact h1, h2⟩, fun ⟨h1, h2⟩ => ⟨.inr h1, h2⟩⟩

/-- How many runs begin in a row that follows a number. -/
def rn : Option UInt16 → List UInt16 → Nat
  | _, [] => 0
  | none, x :: l => 1 + rn (some x) l
  | some p, x :: l => (if (x - p).toNat = 1 then 0 else 1) + rn (some x) l
theorem sub_one {x p : UInt16} (h : p.toNat < x.toNat) : (x - p).toNat = x.toNat - p.toNat := by
  have := x.toNat_lt
  rw [UInt16.toNat_sub]
  omega
/-- x has no one below it in the row. -/
def hd (l : List UInt16) (x : UInt16) : Bool := decide (x.toNat = 0) || !fd l (x - 1)
theorem pred_toNat {x : UInt16} (h : x.toNat ≠ 0) : (x - 1).toNat = x.toNat - 1 := by
  have := x.toNat_lt
  rw [UInt16.toNat_sub]
  simp
  omega
theorem hd_iff {l : List UInt16} (h : ris l = true) (x : UInt16) : hd l x = true ↔ ∀ y ∈ l, y.toNat + 1 ≠ x.toNat := by
  unfold hd
  rw [fd_mem h, Bool.or_eq_true, decide_eq_true_eq, Bool.not_eq_true', decide_eq_false_iff_not]
  constructor
  · rintro (h1 | h1) y hy
    · omega
    · intro h2
      exact h1 (by rw [u16_eq (x := x - 1) (y := y) (by rw [pred_toNat] <;> omega)]; exact hy)
  · intro h1
    by_cases h0 : x.toNat = 0
    · exact .inl h0
    · refine .inr fun hx => h1 _ hx ?_
      rw [pred_toNat h0]
      omega
theorem rn_some {p : UInt16} {l1 l2 : List UInt16} (h : ris (l1 ++ p :: l2) = true) : rn (some p) l2 = (l2.filter (hd (l1 ++ p :: l2))).length := by
  induction l2 generalizing l1 p with
  | nil => rfl
  | cons x l2 ih =>
    have e : l1 ++ p :: x :: l2 = (l1 ++ [p]) ++ x :: l2 := by simp
    obtain ⟨h3, h4, h5⟩ := ris_split (e ▸ h)
    have h6 := h5 p (by simp) x (by simp)
    obtain ⟨h7, h8, h9⟩ := ris_split h
    have h10 := ris_lt h4
    rw [rn, List.filter_cons, ih (e ▸ h), ← e, sub_one h6]
    by_cases hp : x.toNat - p.toNat = 1
    · rw [if_pos hp, if_neg, Nat.zero_add]
      rw [hd_iff h]
      intro h1
      exact h1 p (by simp) (by omega)
    · rw [if_neg hp, if_pos]
      · simp; omega
      · rw [hd_iff h]
        intro y hy
        rcases List.mem_append.1 hy with hy | hy
        · have := h9 y hy p (by simp)
          omega
        · rcases List.mem_cons.1 hy with rfl | hy
          · omega
          · rcases List.mem_cons.1 hy with rfl | hy
            · omega
            · have := h10 y hy
              omega
theorem rn_count {l : List UInt16} (h : ris l = true) : rn none l = (l.filter (hd l)).length := by
  cases l with
  | nil => rfl
  | cons x l =>
    have h1 := ris_lt h
    rw [rn, rn_some (l1 := []) (by simpa using h), List.filter_cons, if_pos]
    · simp; omega
    · rw [hd_iff h]
      intro y hy
      rcases List.mem_cons.1 hy with rfl | hy
      · omega
      · have := h1 y hy
        omega
theorem rn_or {a b : List UInt16} (ha : ris a = true) (hb : ris b = true) : rn none (mg fOr a b) ≤ rn none a + rn none b := by
  have hm := ris_mg fOr ha hb
  have hs := fun z => mg_mem fOr rfl ha hb z
  rw [rn_count hm, rn_count ha, rn_count hb, ← List.length_append]
  refine List.Nodup.length_le_of_subset (ris_nodup (ris_filter _ hm)) fun z hz => ?_
  obtain ⟨h1, h2⟩ := List.mem_filter.1 hz
  rw [hd_iff hm] at h2
  rw [hs] at h1
  simp [fOr] at h1
  rw [List.mem_append, List.mem_filter, List.mem_filter, hd_iff ha, hd_iff hb]
  rcases h1 with h1 | h1
  · exact .inl ⟨h1, fun y hy => h2 y ((hs y).2 (by simp [fOr, hy]))⟩
  · exact .inr ⟨h1, fun y hy => h2 y ((hs y).2 (by simp [fOr, hy]))⟩
theorem rn_wi {l : List UInt16} (h : ris l = true) (x : UInt16) : rn none (wi l x) ≤ rn none l + 1 ∧ rn none l ≤ rn none (wi l x) + 1 := by
  have hw := ris_wi h x
  have hs := fun z => wi_mem h x z
  rw [rn_count hw, rn_count h]
  constructor
  · refine Nat.le_trans (List.Nodup.length_le_of_subset (l₂ := x :: l.filter (hd l)) (ris_nodup (ris_filter _ hw)) fun z hz => ?_) (by simp)
    obtain ⟨h1, h2⟩ := List.mem_filter.1 hz
    rw [hd_iff hw] at h2
    rw [hs] at h1
    rcases h1 with rfl | h1
    · simp
    · exact List.mem_cons_of_mem _ (List.mem_filter.2 ⟨h1, (hd_iff h z).2 fun y hy => h2 y ((hs y).2 (.inr hy))⟩)
  · refine Nat.le_trans (List.Nodup.length_le_of_subset (l₂ := (x + 1) :: (wi l x).filter (hd (wi l x))) (ris_nodup (ris_filter _ h)) fun z hz => ?_) (by simp)
    obtain ⟨h1, h2⟩ := List.mem_filter.1 hz
    rw [hd_iff h] at h2
    by_cases hz : z = x + 1
    · simp [hz]
    · refine List.mem_cons_of_mem _ (List.mem_filter.2 ⟨(hs z).2 (.inr h1), (hd_iff hw z).2 fun y hy he => ?_⟩)
      rcases (hs y).1 hy with rfl | hy
      · refine hz (u16_eq ?_)
        have := z.toNat_lt
        rw [UInt16.toNat_add]
        simp
        omega
      · exact h2 y hy he

/-- The numbers below n that are marked, rising. -/
def ls (p : Nat → Bool) : Nat → List UInt16
  | 0 => []
  | n + 1 => ls p n ++ if p n = true then [UInt16.ofNat n] else []
theorem ls_mem (p : Nat → Bool) (n : Nat) (hn : n ≤ 65536) (z : UInt16) : z ∈ ls p n ↔ z.toNat < n ∧ p z.toNat = true := by
  induction n with
  | zero => simp [ls]
  | succ n ih =>
    have hz : z = UInt16.ofNat n ↔ z.toNat = n := by rw [← UInt16.toNat_inj, u16_of n (by omega)]
    rw [ls, List.mem_append, ih (by omega)]
    constructor
    · rintro (⟨h1, h2⟩ | h)
      · exact ⟨by omega, h2⟩
      · split at h
        · rw [List.mem_singleton, hz] at h
          subst h
          exact ⟨by omega, by assumption⟩
        · cases h
    · rintro ⟨h1, h2⟩
      rcases Nat.lt_or_ge z.toNat n with h | h
      · exact .inl ⟨h, h2⟩
      · have e : z.toNat = n := by omega
        rw [e] at h2
        rw [if_pos h2, List.mem_singleton, hz]
        exact .inr e
theorem ris_ls (p : Nat → Bool) (n : Nat) (hn : n ≤ 65536) : ris (ls p n) = true := by
  induction n with
  | zero => rfl
  | succ n ih =>
    rw [ls]
    split
    · refine ris_app (ih (by omega)) rfl fun x hx y hy => ?_
      rw [ls_mem p n (by omega)] at hx
      rw [List.mem_singleton] at hy
      subst hy
      rw [u16_of n (by omega)]
      exact hx.1
    · rw [List.append_nil]
      exact ih (by omega)
theorem ls_len (p : Nat → Bool) (n : Nat) : (ls p n).length ≤ n := by
  induction n with
  | zero => simp [ls]
  | succ n ih => rw [ls]; split <;> simp <;> omega
/-- The marks of a row. -/
def mk (l : List UInt16) (i : Nat) : Bool := l.any fun y => decide (y.toNat = i)
theorem mk_iff (l : List UInt16) (z : UInt16) : mk l z.toNat = true ↔ z ∈ l := by
  simp only [mk, List.any_eq_true, decide_eq_true_eq]
  exact ⟨fun ⟨y, h1, h2⟩ => u16_eq h2 ▸ h1, fun h => ⟨z, h, rfl⟩⟩
theorem mk_dec (l : List UInt16) (z : UInt16) : mk l z.toNat = decide (z ∈ l) := by rw [Bool.eq_iff_iff, mk_iff, decide_eq_true_eq]
theorem ls_mg (f : Bool → Bool → Bool) (hf : f false false = false) {a b : List UInt16} (ha : ris a = true) (hb : ris b = true) :
    mg f a b = ls (fun i => f (mk a i) (mk b i)) 65536 := by
  refine ris_ext (ris_mg f ha hb) (ris_ls _ _ (Nat.le_refl _)) fun z => ?_
  rw [mg_mem f hf ha hb, ls_mem _ _ (Nat.le_refl _), mk_dec, mk_dec]
  exact ⟨fun h => ⟨z.toNat_lt, h⟩, fun h => h.2⟩
theorem ls_wi {a : List UInt16} (ha : ris a = true) (x : UInt16) : wi a x = ls (fun i => decide (i = x.toNat) || mk a i) 65536 := by
  refine ris_ext (ris_wi ha x) (ris_ls _ _ (Nat.le_refl _)) fun z => ?_
  rw [wi_mem ha, ls_mem _ _ (Nat.le_refl _), Bool.or_eq_true, decide_eq_true_eq, mk_iff, UInt16.toNat_inj]
  exact ⟨fun h => ⟨z.toNat_lt, h⟩, fun h => h.2⟩
theorem bs_ls {a : List UInt16} (ha : ris a = true) (x : UInt16) : bs a x = (ls (mk a) x.toNat).length := by
  rw [bs_count ha]
  refine congrArg List.length ?_
  have := x.toNat_lt
  refine ris_ext (ris_filter _ ha) (ris_ls _ _ (by omega)) fun z => ?_
  rw [List.mem_filter, ls_mem _ _ (by omega), mk_iff, decide_eq_true_eq]
  exact ⟨fun h => ⟨h.2, h.1⟩, fun h => ⟨h.2, h.1⟩⟩
/-- Where runs begin among marks. -/
def hm (p : Nat → Bool) (i : Nat) : Bool := p i && (decide (i = 0) || !p (i - 1))
theorem rn_ls {a : List UInt16} (ha : ris a = true) : rn none a = (ls (hm (mk a)) 65536).length := by
  rw [rn_count ha]
  refine congrArg List.length ?_
  refine ris_ext (ris_filter _ ha) (ris_ls _ _ (Nat.le_refl _)) fun z => ?_
  rw [List.mem_filter, ls_mem _ _ (Nat.le_refl _), hm, Bool.and_eq_true, mk_iff]
  have key : hd a z = (decide (z.toNat = 0) || !mk a (z.toNat - 1)) := by
    unfold hd
    by_cases h0 : z.toNat = 0
    · simp [h0]
    · rw [fd_mem ha, ← pred_toNat h0, mk_dec]
  rw [key]
  exact ⟨fun h => ⟨z.toNat_lt, h⟩, fun h => h.2⟩
end Go.Proofs.YtfefmlnlicilbaaGreatDoor
/- Plain mathematics: sets as words, bit by bit; how many bits a word has; its lowest bit. No Go in sight. -/
namespace Go.Proofs.YtfefmlnlicilbaaGreatDoor
set_option linter.unusedVariables false

/-- Whether the number x is in the words. -/
def wb (w : List UInt64) (x : Nat) : Bool := (w.getD (x / 64) 0).toNat.testBit (x % 64)
/-- The first k marks as a number. -/
def wn (p : Nat → Bool) : Nat → Nat
  | 0 => 0
  | k + 1 => wn p k + (p k).toNat * 2 ^ k
/-- Marks as 1024 words. -/
def wm (p : Nat → Bool) : List UInt64 := (List.range 1024).map fun i => UInt64.ofNat (wn (fun j => p (64 * i + j)) 64)
/-- How many marks are below n. -/
def ct (p : Nat → Bool) : Nat → Nat
  | 0 => 0
  | k + 1 => ct p k + (p k).toNat

theorem wn_lt (p : Nat → Bool) (c : Nat) : wn p c < 2 ^ c := by
  induction c with
  | zero => simp [wn]
  | succ k ih =>
    rw [wn, Nat.pow_succ]
    cases p k <;> simp <;> omega
theorem wn_bit (p : Nat → Bool) (c k : Nat) : (wn p c).testBit k = (decide (k < c) && p k) := by
  induction c with
  | zero => simp [wn]
  | succ m ih =>
    have hlt := wn_lt p m
    have e : wn p (m + 1) = 2 ^ m * (p m).toNat + wn p m := by rw [wn, Nat.mul_comm, Nat.add_comm]
    rw [e, Nat.testBit_two_pow_mul_add _ hlt]
    by_cases h : k < m
    · rw [if_pos h, ih]
      simp [h, Nat.lt_succ_of_lt h]
    · rw [if_neg h]
      by_cases h2 : k = m
      · subst h2
        cases p k <;> simp
      · have h3 : ¬ k < m + 1 := by omega
        have h4 : k - m ≠ 0 := by omega
        simp only [h3, decide_false, Bool.false_and]
        cases p m
        · simp
        · obtain ⟨d, hd⟩ := Nat.exists_eq_succ_of_ne_zero h4
          rw [hd]
          simp [Nat.testBit_succ]
theorem nat_ext {x y : Nat} (hx : x < 18446744073709551616) (hy : y < 18446744073709551616) (h : ∀ t, t < 64 → x.testBit t = y.testBit t) : x = y := by
  apply Nat.eq_of_testBit_eq
  intro t
  by_cases ht : t < 64
  · exact h t ht
  · have hp : 2 ^ 64 ≤ 2 ^ t := Nat.pow_le_pow_right (n := 2) (by omega) (by omega)
    rw [Nat.testBit_lt_two_pow (by omega), Nat.testBit_lt_two_pow (by omega)]
theorem u64_lt (x : UInt64) : x.toNat < 18446744073709551616 := x.toNat_lt
theorem u64_ext {x y : UInt64} (h : ∀ t, t < 64 → x.toNat.testBit t = y.toNat.testBit t) : x = y :=
  UInt64.toNat_inj.1 (nat_ext (u64_lt x) (u64_lt y) h)
theorem u64_of (n : Nat) (h : n < 18446744073709551616) : (UInt64.ofNat n).toNat = n := by simp; omega

theorem wm_length (p : Nat → Bool) : (wm p).length = 1024 := by simp [wm]
theorem wm_getD (p : Nat → Bool) (i : Nat) (hi : i < 1024) : (wm p).getD i 0 = UInt64.ofNat (wn (fun j => p (64 * i + j)) 64) := by
  simp [wm, List.getD_eq_getElem?_getD, List.getElem?_map, List.getElem?_range hi]
theorem wm_get (p : Nat → Bool) (i : Nat) (hi : i < 1024) : (wm p)[i]? = some (UInt64.ofNat (wn (fun j => p (64 * i + j)) 64)) := by
  simp [wm, List.getElem?_map, List.getElem?_range hi]
theorem wm_word (p : Nat → Bool) (i : Nat) (hi : i < 1024) : ((wm p).getD i 0).toNat = wn (fun j => p (64 * i + j)) 64 := by
  rw [wm_getD p i hi, u64_of _ (wn_lt _ 64)]
theorem wb_wm (p : Nat → Bool) (x : Nat) (hx : x < 65536) : wb (wm p) x = p x := by
  unfold wb
  rw [wm_word p _ (by omega), wn_bit]
  have h1 : x % 64 < 64 := by omega
  have h2 : 64 * (x / 64) + x % 64 = x := by omega
  simp [h1, h2]
theorem wb_at (w : List UInt64) (i j : Nat) (hj : j < 64) : (w.getD i 0).toNat.testBit j = wb w (64 * i + j) := by
  unfold wb
  have h1 : (64 * i + j) / 64 = i := by omega
  have h2 : (64 * i + j) % 64 = j := by omega
  rw [h1, h2]
theorem getD_get {l : List UInt64} {i : Nat} (h : i < l.length) : l.getD i 0 = l[i] := by simp [List.getD_eq_getElem?_getD, List.getElem?_eq_getElem h]
theorem wm_of {w : List UInt64} {p : Nat → Bool} (hl : w.length = 1024) (h : ∀ x, x < 65536 → wb w x = p x) : w = wm p := by
  apply List.ext_getElem (by rw [hl, wm_length])
  intro i h1 h2
  apply u64_ext
  intro t ht
  have hi : i < 1024 := by omega
  have e := h (64 * i + t) (by omega)
  rw [← wb_at w i t ht] at e
  rw [← getD_get h1, ← getD_get h2, e, wm_word p i hi, wn_bit]
  simp [ht]
theorem wm_ext {p q : Nat → Bool} (h : ∀ x, x < 65536 → p x = q x) : wm p = wm q :=
  wm_of (wm_length p) fun x hx => (wb_wm p x hx).trans (h x hx)
theorem wb_set (w : List UInt64) (i : Nat) (y : UInt64) (hi : i < w.length) (x : Nat) : wb (w.set i y) x = if x / 64 = i then y.toNat.testBit (x % 64) else wb w x := by
  unfold wb
  rw [List.getD_eq_getElem?_getD, List.getElem?_set]
  by_cases h : x / 64 = i
  · subst h
    simp [hi]
  · rw [if_neg h, if_neg (fun e => h e.symm), List.getD_eq_getElem?_getD]
theorem wm_none : List.replicate 1024 (0 : UInt64) = wm fun _ => false := by
  refine wm_of List.length_replicate fun x hx => ?_
  unfold wb
  have : (List.replicate 1024 (0 : UInt64)).getD (x / 64) 0 = 0 := by
    rw [List.getD_eq_getElem?_getD, List.getElem?_replicate]
    split <;> simp
  rw [this]
  simp

/- Counting. -/
theorem ct_ext {p q : Nat → Bool} {n : Nat} (h : ∀ j, j < n → p j = q j) : ct p n = ct q n := by
  induction n with
  | zero => rfl
  | succ n ih => rw [ct, ct, ih (fun j hj => h j (by omega)), h n (by omega)]
theorem ct_add (p : Nat → Bool) (a b : Nat) : ct p (a + b) = ct p a + ct (fun j => p (a + j)) b := by
  induction b with
  | zero => simp [ct]
  | succ b ih => rw [← Nat.add_assoc, ct, ih, ct]; omega
theorem ct_le (p : Nat → Bool) (n : Nat) : ct p n ≤ n := by
  induction n with
  | zero => simp [ct]
  | succ n ih => rw [ct]; cases p n <;> simp <;> omega
theorem ct_mono (p : Nat → Bool) {a b : Nat} (h : a ≤ b) : ct p a ≤ ct p b := by
  obtain ⟨d, rfl⟩ := Nat.le.dest h
  rw [ct_add]; omega
theorem ct_zero {p : Nat → Bool} {n : Nat} (h : ∀ j, j < n → p j = false) : ct p n = 0 := by
  induction n with
  | zero => rfl
  | succ n ih => rw [ct, ih (fun j hj => h j (by omega)), h n (by omega)]; rfl
theorem ct_all {p : Nat → Bool} {n : Nat} (h : ∀ j, j < n → p j = true) : ct p n = n := by
  induction n with
  | zero => rfl
  | succ n ih => rw [ct, ih (fun j hj => h j (by omega)), h n (by omega)]; rfl
theorem ct_not (p : Nat → Bool) (n : Nat) : ct (fun j => !p j) n = n - ct p n := by
  have : ct (fun j => !p j) n + ct p n = n := by
    induction n with
    | zero => rfl
    | succ n ih => rw [ct, ct]; cases p n <;> simp <;> omega
  omega
theorem ct_min (p : Nat → Bool) (n m : Nat) : ct (fun j => p j && decide (j < m)) n = ct p (min n m) := by
  induction n with
  | zero => simp [ct]
  | succ n ih =>
    rw [ct, ih]
    by_cases h : n < m
    · have e1 : min n m = n := by omega
      have e2 : min (n + 1) m = n + 1 := by omega
      rw [e1, e2, ct]
      simp [h]
    · have e1 : min n m = m := by omega
      have e2 : min (n + 1) m = m := by omega
      rw [e1, e2]
      simp [h]
theorem ls_ct (p : Nat → Bool) (n : Nat) : (ls p n).length = ct p n := by
  induction n with
  | zero => rfl
  | succ n ih =>
    rw [ls, List.length_append, ih, ct]
    cases p n <;> simp
theorem ls_ext {p q : Nat → Bool} {n : Nat} (h : ∀ j, j < n → p j = q j) : ls p n = ls q n := by
  induction n with
  | zero => rfl
  | succ n ih => rw [ls, ls, ih (fun j hj => h j (by omega)), h n (by omega)]
theorem ls_skip (p : Nat → Bool) {a b : Nat} (hab : a ≤ b) (h : ∀ j, a ≤ j → j < b → p j = false) : ls p b = ls p a := by
  obtain ⟨d, rfl⟩ := Nat.le.dest hab
  clear hab
  induction d with
  | zero => rfl
  | succ d ih =>
    rw [← Nat.add_assoc, ls, ih (fun j h1 h2 => h j h1 (by omega)), h (a + d) (by omega) (by omega)]
    simp
theorem ls_next (p : Nat → Bool) {a b : Nat} (hab : a ≤ b) (h : ∀ j, a ≤ j → j < b → p j = false) (hb : p b = true) : ls p (b + 1) = ls p a ++ [UInt16.ofNat b] := by
  rw [ls, ls_skip p hab h, hb]
  simp
theorem ls_pre (p : Nat → Bool) {a b : Nat} (hab : a ≤ b) : ∃ r, ls p b = ls p a ++ r := by
  obtain ⟨d, rfl⟩ := Nat.le.dest hab
  clear hab
  induction d with
  | zero => exact ⟨[], by simp⟩
  | succ d ih =>
    obtain ⟨r, hr⟩ := ih
    rw [← Nat.add_assoc, ls, hr]
    exact ⟨_, List.append_assoc _ _ _⟩
/-- The number of which k are below it. -/
theorem ls_at (p : Nat → Bool) {b n : Nat} (hb : b < n) (h : p b = true) : (ls p n)[ct p b]? = some (UInt16.ofNat b) := by
  obtain ⟨r, hr⟩ := ls_pre p (a := b + 1) (b := n) (by omega)
  rw [hr, ls, h, ← ls_ct p b]
  simp
theorem hm_ext {p q : Nat → Bool} {n : Nat} (h : ∀ j, j < n → p j = q j) : ∀ j, j < n → hm p j = hm q j := by
  intro j hj
  unfold hm
  rw [h j hj]
  by_cases h0 : j = 0
  · simp [h0]
  · rw [h (j - 1) (by omega)]

/- The lowest bit. -/
theorem low_bits {n : Nat} (h0 : n ≠ 0) (h : n < 18446744073709551616) : Lib.ctz 64 n < 64 ∧ n.testBit (Lib.ctz 64 n) = true ∧ (∀ j, j < Lib.ctz 64 n → n.testBit j = false) ∧
    ∀ j, (n &&& (n - 1)).testBit j = (n.testBit j && decide (Lib.ctz 64 n < j)) := by
  obtain ⟨m, hm, hk⟩ := Lib.ctzFrom_spec 64 n (by omega) h
  have e : Lib.ctz 64 n = Lib.ctzFrom 64 n := by simp [Lib.ctz, h0]
  rw [e]
  revert hm
  generalize Lib.ctzFrom 64 n = k at *
  intro hm
  have hbit : ∀ j, n.testBit j = (decide (k ≤ j) && (2 * m + 1).testBit (j - k)) := by
    intro j
    rw [hm, Nat.mul_comm, Nat.testBit_mul_two_pow]
  have hpred : n - 1 = 2 ^ k * (2 * m) + (2 ^ k - 1) := by
    rw [hm]
    have h2 := Nat.two_pow_pos k
    have : 2 ^ k * (2 * m + 1) = 2 ^ k * (2 * m) + 2 ^ k := by rw [Nat.mul_add, Nat.mul_one]
    omega
  refine ⟨hk, ?_, ?_, ?_⟩
  · rw [hbit]; simp
  · intro j hj
    rw [hbit]
    have : ¬ k ≤ j := by omega
    simp [this]
  · intro j
    have h2 := Nat.two_pow_pos k
    rw [Nat.testBit_and, hpred, Nat.testBit_two_pow_mul_add _ (by omega), hbit]
    rcases Nat.lt_trichotomy j k with h3 | h3 | h3
    · have : ¬ k ≤ j := by omega
      simp [this]
    · subst h3
      simp
    · obtain ⟨d, rfl⟩ : ∃ d, j = k + (d + 1) := ⟨j - k - 1, by omega⟩
      have a1 : k ≤ k + (d + 1) := by omega
      have a2 : ¬ k + (d + 1) < k := by omega
      have a3 : k + (d + 1) - k = d + 1 := by omega
      have a4 : k < k + (d + 1) := by omega
      have a5 : (2 * m + 1) / 2 = m := by omega
      have a6 : 2 * m / 2 = m := by omega
      simp only [a1, a2, a3, a4, decide_true, Bool.true_and, Bool.and_true, if_false, Nat.testBit_succ, a5, a6, Bool.and_self]
theorem no_bits {n : Nat} (h : ∀ j, j < 64 → n.testBit j = false) (hn : n < 18446744073709551616) : n = 0 :=
  nat_ext hn (by omega) (fun t ht => by rw [h t ht]; simp)

/- How many bits: the sum by halves, byte by byte. -/
theorem and_bytes (u v c d : Nat) (hu : u < 256) (hc : c < 256) : (u + 256 * v) &&& (c + 256 * d) = (u &&& c) + 256 * (v &&& d) := by
  have key : ∀ a b : Nat, a < 256 → ∀ t, (a + 256 * b).testBit t = if t < 8 then a.testBit t else b.testBit (t - 8) := by
    intro a b ha t
    have e : a + 256 * b = 2 ^ 8 * b + a := by omega
    rw [e, Nat.testBit_two_pow_mul_add _ (by omega)]
  have h3 : u &&& c < 256 := Nat.lt_of_le_of_lt Nat.and_le_left hu
  apply Nat.eq_of_testBit_eq
  intro t
  rw [Nat.testBit_and, key _ _ hu, key _ _ hc, key _ _ h3]
  split <;> rw [Nat.testBit_and]
def q1 (b : Nat) : Nat := (b / 2 &&& 85) + (b &&& 85)
def q2 (b : Nat) : Nat := (b / 4 &&& 51) + (b &&& 51)
def q3 (b : Nat) : Nat := b / 16 + b % 16
theorem q1_low : ∀ (a : Fin 256) (e : Fin 2), (a.val / 2 + 128 * e.val &&& 85) = (a.val / 2 &&& 85) := by decide +kernel
theorem q2_low : ∀ (a : Fin 256) (e : Fin 4), (a.val / 4 + 64 * e.val &&& 51) = (a.val / 4 &&& 51) := by decide +kernel
theorem q1_lt : ∀ a : Fin 256, q1 a.val < 256 := by decide +kernel
theorem q2_lt : ∀ a : Fin 256, q2 (q1 a.val) / 16 ≤ 4 ∧ q2 (q1 a.val) % 16 ≤ 4 := by decide +kernel
theorem q3_ct : ∀ a : Fin 256, q3 (q2 (q1 a.val)) = ct a.val.testBit 8 := by decide +kernel
theorem q1_step (a y c : Nat) (ha : a < 256) : ((a + 256 * y) / 2 &&& (85 + 256 * c)) + (a + 256 * y &&& (85 + 256 * c)) = q1 a + 256 * ((y / 2 &&& c) + (y &&& c)) := by
  have e : (a + 256 * y) / 2 = (a / 2 + 128 * (y % 2)) + 256 * (y / 2) := by omega
  have l := q1_low ⟨a, ha⟩ ⟨y % 2, by omega⟩
  simp only at l
  rw [e, and_bytes _ _ _ _ (by omega) (by omega), and_bytes _ _ _ _ ha (by omega), l]
  unfold q1
  omega
theorem q2_step (a y c : Nat) (ha : a < 256) : ((a + 256 * y) / 4 &&& (51 + 256 * c)) + (a + 256 * y &&& (51 + 256 * c)) = q2 a + 256 * ((y / 4 &&& c) + (y &&& c)) := by
  have e : (a + 256 * y) / 4 = (a / 4 + 64 * (y % 4)) + 256 * (y / 4) := by omega
  have l := q2_low ⟨a, ha⟩ ⟨y % 4, by omega⟩
  simp only at l
  rw [e, and_bytes _ _ _ _ (by omega) (by omega), and_bytes _ _ _ _ ha (by omega), l]
  unfold q2
  omega
theorem q1_zero (c : Nat) : (0 / 2 &&& c) + (0 &&& c) = 0 := by simp
theorem q2_zero (c : Nat) : (0 / 4 &&& c) + (0 &&& c) = 0 := by simp
/-- Eight bytes. -/
def by8 (a b c d e f g h : Nat) : Nat := a + 256 * (b + 256 * (c + 256 * (d + 256 * (e + 256 * (f + 256 * (g + 256 * (h + 256 * 0)))))))
theorem q1_all (a b c d e f g h : Nat) (h1 : a < 256) (h2 : b < 256) (h3 : c < 256) (h4 : d < 256) (h5 : e < 256) (h6 : f < 256) (h7 : g < 256) (h8 : h < 256) :
    (by8 a b c d e f g h / 2 &&& 6148914691236517205) + (by8 a b c d e f g h &&& 6148914691236517205) = by8 (q1 a) (q1 b) (q1 c) (q1 d) (q1 e) (q1 f) (q1 g) (q1 h) := by
  have m : 6148914691236517205 = by8 85 85 85 85 85 85 85 85 := by decide +kernel
  rw [m]
  unfold by8
  rw [q1_step _ _ _ h1, q1_step _ _ _ h2, q1_step _ _ _ h3, q1_step _ _ _ h4, q1_step _ _ _ h5, q1_step _ _ _ h6, q1_step _ _ _ h7, q1_step _ _ _ h8, q1_zero]
theorem q2_all (a b c d e f g h : Nat) (h1 : a < 256) (h2 : b < 256) (h3 : c < 256) (h4 : d < 256) (h5 : e < 256) (h6 : f < 256) (h7 : g < 256) (h8 : h < 256) :
    (by8 a b c d e f g h / 4 &&& 3689348814741910323) + (by8 a b c d e f g h &&& 3689348814741910323) = by8 (q2 a) (q2 b) (q2 c) (q2 d) (q2 e) (q2 f) (q2 g) (q2 h) := by
  have m : 3689348814741910323 = by8 51 51 51 51 51 51 51 51 := by decide +kernel
  rw [m]
  unfold by8
  rw [q2_step _ _ _ h1, q2_step _ _ _ h2, q2_step _ _ _ h3, q2_step _ _ _ h4, q2_step _ _ _ h5, q2_step _ _ _ h6, q2_step _ _ _ h7, q2_step _ _ _ h8, q2_zero]
theorem and15 (n : Nat) : n &&& 15 = n % 16 := Nat.and_two_pow_sub_one_eq_mod n 4
theorem q3_step (a y c t : Nat) (ha : a / 16 ≤ 4 ∧ a % 16 ≤ 4) (hy : t = y % 16) (ht : t ≤ 4) : ((a + 256 * y) / 16 + (a + 256 * y)) &&& (15 + 256 * c) = q3 a + 256 * ((y / 16 + y) &&& c) := by
  have e : (a + 256 * y) / 16 + (a + 256 * y) = (a / 16 + a + 16 * (y % 16)) + 256 * (y / 16 + y) := by omega
  rw [e, and_bytes _ _ _ _ (by omega) (by omega), and15]
  unfold q3
  omega
theorem q3_all (a b c d e f g h : Nat) (h1 : a / 16 ≤ 4 ∧ a % 16 ≤ 4) (h2 : b / 16 ≤ 4 ∧ b % 16 ≤ 4) (h3 : c / 16 ≤ 4 ∧ c % 16 ≤ 4) (h4 : d / 16 ≤ 4 ∧ d % 16 ≤ 4) (h5 : e / 16 ≤ 4 ∧ e % 16 ≤ 4) (h6 : f / 16 ≤ 4 ∧ f % 16 ≤ 4) (h7 : g / 16 ≤ 4 ∧ g % 16 ≤ 4) (h8 : h / 16 ≤ 4 ∧ h % 16 ≤ 4) :
    (by8 a b c d e f g h / 16 + by8 a b c d e f g h) &&& 1085102592571150095 = by8 (q3 a) (q3 b) (q3 c) (q3 d) (q3 e) (q3 f) (q3 g) (q3 h) := by
  have m : 1085102592571150095 = by8 15 15 15 15 15 15 15 15 := by decide +kernel
  have r : ∀ (u v : Nat), (u + 256 * v) % 16 = u % 16 := by intro u v; omega
  rw [m]
  unfold by8
  rw [q3_step a _ _ _ h1 (r _ _).symm h2.2, q3_step b _ _ _ h2 (r _ _).symm h3.2, q3_step c _ _ _ h3 (r _ _).symm h4.2, q3_step d _ _ _ h4 (r _ _).symm h5.2, q3_step e _ _ _ h5 (r _ _).symm h6.2, q3_step f _ _ _ h6 (r _ _).symm h7.2, q3_step g _ _ _ h7 (r _ _).symm h8.2, q3_step h _ _ 0 h8 (by simp) (by omega)]
  simp
theorem by8_add (a b c d e f g h a' b' c' d' e' f' g' h' : Nat) : by8 a b c d e f g h + by8 a' b' c' d' e' f' g' h' = by8 (a + a') (b + b') (c + c') (d + d') (e + e') (f + f') (g + g') (h + h') := by
  unfold by8
  omega
theorem by8_div (a b c d e f g h : Nat) (h1 : a < 256) : by8 a b c d e f g h / 256 = by8 b c d e f g h 0 := by
  have e1 : by8 a b c d e f g h = a + 256 * by8 b c d e f g h 0 := by simp only [by8, Nat.mul_zero, Nat.add_zero]
  omega
theorem by8_mod (a b c d e f g h : Nat) (h1 : a < 128) : by8 a b c d e f g h % 128 = a := by
  have e1 : by8 a b c d e f g h = a + 256 * by8 b c d e f g h 0 := by simp only [by8, Nat.mul_zero, Nat.add_zero]
  omega
theorem by8_lt (a b c d e f g h : Nat) (h1 : a < 256) (h2 : b < 256) (h3 : c < 256) (h4 : d < 256) (h5 : e < 256) (h6 : f < 256) (h7 : g < 256) (h8 : h < 256) : by8 a b c d e f g h < 18446744073709551616 := by
  have s : ∀ x y K : Nat, x < 256 → y < K → x + 256 * y < 256 * K := by omega
  exact Nat.lt_of_lt_of_eq (s _ _ _ h1 (s _ _ _ h2 (s _ _ _ h3 (s _ _ _ h4 (s _ _ _ h5 (s _ _ _ h6 (s _ _ _ h7 (s _ _ _ h8 (Nat.zero_lt_one))))))))) (by decide +kernel)
theorem div2 (n : Nat) : n / 65536 = n / 256 / 256 := by omega
theorem div4 (n : Nat) : n / 4294967296 = n / 256 / 256 / 256 / 256 := by omega
theorem sum_all (a b c d e f g h : Nat) (h1 : a ≤ 8) (h2 : b ≤ 8) (h3 : c ≤ 8) (h4 : d ≤ 8) (h5 : e ≤ 8) (h6 : f ≤ 8) (h7 : g ≤ 8) (h8 : h ≤ 8) (s t u : Nat)
    (hs : s = by8 a b c d e f g h + by8 a b c d e f g h / 256) (ht : t = s + s / 65536) (hu : u = t + t / 4294967296) : u % 128 = a + b + c + d + e + f + g + h ∧ s < 18446744073709551616 ∧ t < 18446744073709551616 ∧ u < 18446744073709551616 := by
  rw [by8_div _ _ _ _ _ _ _ _ (by omega), by8_add] at hs
  rw [hs, div2, by8_div _ _ _ _ _ _ _ _ (by omega), by8_div _ _ _ _ _ _ _ _ (by omega), by8_add] at ht
  rw [ht, div4, by8_div _ _ _ _ _ _ _ _ (by omega), by8_div _ _ _ _ _ _ _ _ (by omega), by8_div _ _ _ _ _ _ _ _ (by omega), by8_div _ _ _ _ _ _ _ _ (by omega), by8_add] at hu
  refine ⟨?_, ?_, ?_, ?_⟩
  · rw [hu, by8_mod _ _ _ _ _ _ _ _ (by omega)]
    omega
  · rw [hs]
    exact by8_lt _ _ _ _ _ _ _ _ (by omega) (by omega) (by omega) (by omega) (by omega) (by omega) (by omega) (by omega)
  · rw [ht]
    exact by8_lt _ _ _ _ _ _ _ _ (by omega) (by omega) (by omega) (by omega) (by omega) (by omega) (by omega) (by omega)
  · rw [hu]
    exact by8_lt _ _ _ _ _ _ _ _ (by omega) (by omega) (by omega) (by omega) (by omega) (by omega) (by omega) (by omega)
/-- The bytes of a number. -/
theorem by8_of (x : Nat) (h : x < 18446744073709551616) : x = by8 (x % 256) (x / 256 % 256) (x / 65536 % 256) (x / 16777216 % 256) (x / 4294967296 % 256) (x / 1099511627776 % 256) (x / 281474976710656 % 256) (x / 72057594037927936) := by
  unfold by8
  omega
theorem ct_byte (x k : Nat) : ct (x / 2 ^ k % 256).testBit 8 = ct (fun j => x.testBit (k + j)) 8 := by
  refine ct_ext fun j hj => ?_
  have : (256 : Nat) = 2 ^ 8 := rfl
  rw [this, Nat.testBit_mod_two_pow, Nat.testBit_div_two_pow, Nat.add_comm]
  simp [hj]
theorem ct_bytes (x : Nat) : ct x.testBit 64 = ct (x % 256).testBit 8 + ct (x / 256 % 256).testBit 8 + ct (x / 65536 % 256).testBit 8 + ct (x / 16777216 % 256).testBit 8 + ct (x / 4294967296 % 256).testBit 8 + ct (x / 1099511627776 % 256).testBit 8 + ct (x / 281474976710656 % 256).testBit 8 + ct (x / 72057594037927936 % 256).testBit 8 := by
  have b0 : ct (x % 256).testBit 8 = ct x.testBit 8 := ct_ext fun j hj => by
    have : (256 : Nat) = 2 ^ 8 := rfl
    rw [this, Nat.testBit_mod_two_pow]
    simp [hj]
  have b1 := ct_byte x 8
  have b2 := ct_byte x 16
  have b3 := ct_byte x 24
  have b4 := ct_byte x 32
  have b5 := ct_byte x 40
  have b6 := ct_byte x 48
  have b7 := ct_byte x 56
  have s1 := ct_add x.testBit 56 8
  have s2 := ct_add x.testBit 48 8
  have s3 := ct_add x.testBit 40 8
  have s4 := ct_add x.testBit 32 8
  have s5 := ct_add x.testBit 24 8
  have s6 := ct_add x.testBit 16 8
  have s7 := ct_add x.testBit 8 8
  simp only [Nat.reduceAdd, Nat.reducePow] at *
  omega
/-- The sum by halves is how many bits there are. -/
theorem pop_all (x s1 s2 s3 s4 s5 s6 : Nat) (h : x < 18446744073709551616) (e1 : s1 = (x / 2 &&& 6148914691236517205) + (x &&& 6148914691236517205)) (e2 : s2 = (s1 / 4 &&& 3689348814741910323) + (s1 &&& 3689348814741910323))
    (e3 : s3 = (s2 / 16 + s2) &&& 1085102592571150095) (e4 : s4 = s3 + s3 / 256) (e5 : s5 = s4 + s4 / 65536) (e6 : s6 = s5 + s5 / 4294967296) :
    s6 % 128 = ct x.testBit 64 ∧ s1 < 18446744073709551616 ∧ s2 / 16 + s2 < 18446744073709551616 ∧ s4 < 18446744073709551616 ∧ s5 < 18446744073709551616 ∧ s6 < 18446744073709551616 := by
  have key : ∀ a : Nat, a < 256 → q1 a < 256 ∧ (q2 (q1 a) / 16 ≤ 4 ∧ q2 (q1 a) % 16 ≤ 4) ∧ q3 (q2 (q1 a)) = ct a.testBit 8 ∧ ct a.testBit 8 ≤ 8 := by
    intro a ha
    have k1 := q1_lt ⟨a, ha⟩
    exact ⟨k1, q2_lt ⟨a, ha⟩, q3_ct ⟨a, ha⟩, ct_le _ 8⟩
  have hc := ct_bytes x
  have e0 := by8_of x h
  have k1 := key (x % 256) (by omega)
  have hm1 : x % 256 < 256 := by omega
  have hm2 : x / 256 % 256 < 256 := by omega
  have hm3 : x / 65536 % 256 < 256 := by omega
  have hm4 : x / 16777216 % 256 < 256 := by omega
  have hm5 : x / 4294967296 % 256 < 256 := by omega
  have hm6 : x / 1099511627776 % 256 < 256 := by omega
  have hm7 : x / 281474976710656 % 256 < 256 := by omega
  have hm8 : x / 72057594037927936 < 256 := by omega
  have k2 := key (x / 256 % 256) (by omega)
  have k3 := key (x / 65536 % 256) (by omega)
  have k4 := key (x / 16777216 % 256) (by omega)
  have k5 := key (x / 4294967296 % 256) (by omega)
  have k6 := key (x / 1099511627776 % 256) (by omega)
  have k7 := key (x / 281474976710656 % 256) (by omega)
  have k8 := key (x / 72057594037927936) (by omega)
  have h8 : x / 72057594037927936 % 256 = x / 72057594037927936 := by omega
  rw [h8] at hc
  generalize x % 256 = a at *
  generalize x / 256 % 256 = b at *
  generalize x / 65536 % 256 = c at *
  generalize x / 16777216 % 256 = d at *
  generalize x / 4294967296 % 256 = e at *
  generalize x / 1099511627776 % 256 = f at *
  generalize x / 281474976710656 % 256 = g at *
  generalize x / 72057594037927936 = i at *
  rw [e0, q1_all a b c d e f g i hm1 hm2 hm3 hm4 hm5 hm6 hm7 hm8] at e1
  have l1 : s1 < 18446744073709551616 := by rw [e1]; exact by8_lt _ _ _ _ _ _ _ _ k1.1 k2.1 k3.1 k4.1 k5.1 k6.1 k7.1 k8.1
  rw [e1, q2_all _ _ _ _ _ _ _ _ k1.1 k2.1 k3.1 k4.1 k5.1 k6.1 k7.1 k8.1] at e2
  have l2 : s2 / 16 + s2 < 18446744073709551616 := by
    have m : s2 ≤ by8 68 68 68 68 68 68 68 68 := by
      rw [e2]
      unfold by8
      omega
    have m2 : by8 68 68 68 68 68 68 68 68 < 4919131752989213765 := by decide +kernel
    omega
  rw [e2, q3_all _ _ _ _ _ _ _ _ k1.2.1 k2.2.1 k3.2.1 k4.2.1 k5.2.1 k6.2.1 k7.2.1 k8.2.1, k1.2.2.1, k2.2.2.1, k3.2.2.1, k4.2.2.1, k5.2.2.1, k6.2.2.1, k7.2.2.1, k8.2.2.1] at e3
  rw [e3] at e4
  obtain ⟨r1, r2, r3, r4⟩ := sum_all _ _ _ _ _ _ _ _ k1.2.2.2 k2.2.2.2 k3.2.2.2 k4.2.2.2 k5.2.2.2 k6.2.2.2 k7.2.2.2 k8.2.2.2 s4 s5 s6 e4 e5 e6
  exact ⟨by omega, l1, l2, r2, r3, r4⟩
end Go.Proofs.YtfefmlnlicilbaaGreatDoor
/- Plain mathematics: runs of numbers, right ones, their marks, the runs of marks. No Go in sight. -/
namespace Go.Proofs.YtfefmlnlicilbaaGreatDoor
set_option linter.unusedVariables false

/-- A run: its first number, and how many more. -/
abbrev Rn := UInt16 × UInt16
def lst (r : Rn) : Nat := r.1.toNat + r.2.toNat
def inr (r : Rn) (x : Nat) : Bool := decide (r.1.toNat ≤ x) && decide (x ≤ lst r)
/-- The marks of runs. -/
def mr (l : List Rn) (x : Nat) : Bool := l.any fun r => inr r x
/-- Right runs, the first one from n on. -/
def mayr : Nat → List Rn → Bool
  | _, [] => true
  | n, r :: l => decide (n ≤ r.1.toNat) && (decide (lst r ≤ 65535) && mayr (lst r + 2) l)
theorem inr_iff (r : Rn) (x : Nat) : inr r x = true ↔ r.1.toNat ≤ x ∧ x ≤ lst r := by simp [inr]
theorem mr_cons (r : Rn) (l : List Rn) (x : Nat) : mr (r :: l) x = (inr r x || mr l x) := by simp [mr]
theorem mr_app (l m : List Rn) (x : Nat) : mr (l ++ m) x = (mr l x || mr m x) := by simp [mr]
theorem mr_nil (x : Nat) : mr [] x = false := rfl
theorem mayr_cons {n : Nat} {r : Rn} {l : List Rn} : mayr n (r :: l) = true ↔ n ≤ r.1.toNat ∧ lst r ≤ 65535 ∧ mayr (lst r + 2) l = true := by simp [mayr]
theorem fst_le (r : Rn) : r.1.toNat ≤ lst r := Nat.le_add_right _ _
theorem mayr_mono {n m : Nat} {l : List Rn} (h : n ≤ m) (hm : mayr m l = true) : mayr n l = true := by
  cases l with
  | nil => rfl
  | cons r l =>
    rw [mayr_cons] at hm ⊢
    exact ⟨by omega, hm.2⟩
theorem mr_ge {n : Nat} {l : List Rn} (h : mayr n l = true) {x : Nat} (hx : mr l x = true) : n ≤ x ∧ x ≤ 65535 := by
  induction l generalizing n with
  | nil => rw [mr_nil] at hx; cases hx
  | cons r l ih =>
    obtain ⟨h1, h2, h3⟩ := mayr_cons.1 h
    rw [mr_cons, Bool.or_eq_true, inr_iff] at hx
    rcases hx with ⟨a, b⟩ | hx
    · omega
    · have := ih h3 hx
      have := fst_le r
      omega
/-- One set has one row of right runs. -/
theorem mr_inj {n m : Nat} {a b : List Rn} (ha : mayr n a = true) (hb : mayr m b = true) (h : ∀ x, mr a x = mr b x) : a = b := by
  induction a generalizing n m b with
  | nil =>
    cases b with
    | nil => rfl
    | cons s b =>
      have := h s.1.toNat
      rw [mr_nil, mr_cons, (inr_iff _ _).2 ⟨Nat.le_refl _, fst_le s⟩] at this
      cases this
  | cons r a ih =>
    cases b with
    | nil =>
      have := h r.1.toNat
      rw [mr_nil, mr_cons, (inr_iff _ _).2 ⟨Nat.le_refl _, fst_le r⟩] at this
      cases this
    | cons s b =>
      obtain ⟨a1, a2, a3⟩ := mayr_cons.1 ha
      obtain ⟨b1, b2, b3⟩ := mayr_cons.1 hb
      have ra : mayr r.1.toNat (r :: a) = true := mayr_cons.2 ⟨Nat.le_refl _, a2, a3⟩
      have rb : mayr s.1.toNat (s :: b) = true := mayr_cons.2 ⟨Nat.le_refl _, b2, b3⟩
      have e1 : r.1.toNat = s.1.toNat := by
        have x1 := (mr_ge rb (x := r.1.toNat) (by rw [← h, mr_cons, (inr_iff _ _).2 ⟨Nat.le_refl _, fst_le r⟩]; rfl)).1
        have x2 := (mr_ge ra (x := s.1.toNat) (by rw [h, mr_cons, (inr_iff _ _).2 ⟨Nat.le_refl _, fst_le s⟩]; rfl)).1
        omega
      have f1 := fst_le r
      have f2 := fst_le s
      have e2 : lst r = lst s := by
        rcases Nat.lt_trichotomy (lst r) (lst s) with hlt | heq | hlt
        · have hx := h (lst r + 1)
          rw [mr_cons, mr_cons, (inr_iff s _).2 ⟨by omega, by omega⟩, Bool.true_or] at hx
          have h0 : inr r (lst r + 1) = false := by rw [Bool.eq_false_iff]; intro hh; have := ((inr_iff _ _).1 hh).2; omega
          rw [h0, Bool.false_or] at hx
          have := (mr_ge a3 hx).1
          omega
        · exact heq
        · have hx := h (lst s + 1)
          rw [mr_cons, mr_cons, (inr_iff r _).2 ⟨by omega, by omega⟩, Bool.true_or] at hx
          have h0 : inr s (lst s + 1) = false := by rw [Bool.eq_false_iff]; intro hh; have := ((inr_iff _ _).1 hh).2; omega
          rw [h0, Bool.false_or] at hx
          have := (mr_ge b3 hx.symm).1
          omega
      have er : r = s := by
        refine Prod.ext (u16_eq e1) (u16_eq ?_)
        unfold lst at e2
        omega
      subst er
      rw [ih a3 b3 fun x => ?_]
      have hx := h x
      rw [mr_cons, mr_cons] at hx
      cases hr : inr r x with
      | false => rw [hr, Bool.false_or, Bool.false_or] at hx; exact hx
      | true =>
        have h1 := ((inr_iff _ _).1 hr).2
        have h2 : mr a x = false := by rw [Bool.eq_false_iff]; intro hh; have := (mr_ge a3 hh).1; omega
        have h3 : mr b x = false := by rw [Bool.eq_false_iff]; intro hh; have := (mr_ge b3 hh).1; omega
        rw [h2, h3]
theorem mayr_snoc {n : Nat} {l : List Rn} {r : Rn} : mayr n (l ++ [r]) = true ↔ mayr n l = true ∧ (∀ s ∈ l, lst s + 2 ≤ r.1.toNat) ∧ n ≤ r.1.toNat ∧ lst r ≤ 65535 := by
  induction l generalizing n with
  | nil => simp [mayr]
  | cons s l ih =>
    rw [List.cons_append, mayr_cons, mayr_cons, ih]
    have := fst_le s
    constructor
    · rintro ⟨h1, h2, h3, h4, h5, h6⟩
      refine ⟨⟨h1, h2, h3⟩, ?_, by omega, h6⟩
      intro t ht
      rcases List.mem_cons.1 ht with rfl | ht
      · exact h5
      · exact h4 t ht
    · rintro ⟨⟨h1, h2, h3⟩, h4, h5, h6⟩
      exact ⟨h1, h2, h3, fun t ht => h4 t (List.mem_cons_of_mem _ ht), h4 s List.mem_cons_self, h6⟩
theorem mr_last {l : List Rn} {s : Rn} (h : s ∈ l) : mr l (lst s) = true := by
  unfold mr
  rw [List.any_eq_true]
  exact ⟨s, h, (inr_iff _ _).2 ⟨fst_le s, Nat.le_refl _⟩⟩

/-- The last run is one longer. -/
def bump : List Rn → List Rn
  | [] => []
  | [r] => [(r.1, r.2 + 1)]
  | r :: s :: l => r :: bump (s :: l)
theorem bump_snoc (l : List Rn) (r : Rn) : bump (l ++ [r]) = l ++ [(r.1, r.2 + 1)] := by
  induction l with
  | nil => rfl
  | cons s l ih =>
    cases l with
    | nil => rfl
    | cons t l => rw [List.cons_append, List.cons_append, bump, ← List.cons_append, ih]; rfl
/-- The runs of the marks below n. -/
def rs (p : Nat → Bool) : Nat → List Rn
  | 0 => []
  | n + 1 => if p n = true then (if (decide (0 < n) && p (n - 1)) = true then bump (rs p n) else rs p n ++ [(UInt16.ofNat n, 0)]) else rs p n
theorem rs_inv (p : Nat → Bool) (n : Nat) (hn : n ≤ 65536) : mayr 0 (rs p n) = true ∧ (∀ x, mr (rs p n) x = (decide (x < n) && p x)) ∧ ((decide (0 < n) && p (n - 1)) = true → ∃ l r, rs p n = l ++ [r] ∧ lst r = n - 1) ∧
    (rs p n).length = ct (hm p) n := by
  induction n with
  | zero => exact ⟨rfl, fun x => by simp [rs, mr_nil], fun h => by simp at h, rfl⟩
  | succ n ih =>
    obtain ⟨i1, i2, i3, i4⟩ := ih (by omega)
    cases hp : p n with
    | false =>
      have e : rs p (n + 1) = rs p n := by rw [rs, hp]; simp
      have hh : hm p n = false := by unfold hm; rw [hp]; rfl
      rw [e]
      refine ⟨i1, fun x => ?_, fun h => ?_, by rw [ct, hh, i4]; rfl⟩
      · rw [i2]
        by_cases hx : x = n
        · subst hx; rw [hp]; simp
        · congr 1
          exact decide_eq_decide.2 (by omega)
      · rw [Nat.add_sub_cancel, hp, Bool.and_false] at h; cases h
    | true =>
      cases hq : (decide (0 < n) && p (n - 1)) with
      | true =>
        have e : rs p (n + 1) = bump (rs p n) := by rw [rs, hp, hq]; simp
        obtain ⟨l, r, e1, e2⟩ := i3 hq
        have h0 : 0 < n := by
          rw [Bool.and_eq_true, decide_eq_true_eq] at hq
          exact hq.1
        have hm0 : hm p n = false := by
          unfold hm
          rw [Bool.and_eq_true, decide_eq_true_eq] at hq
          rw [hq.2, hp, decide_eq_false (by omega)]
          rfl
        have h2 : (r.2 + 1).toNat = r.2.toNat + 1 := by
          have hle : r.2.toNat ≤ lst r := Nat.le_add_left _ _
          rw [UInt16.toNat_add]
          have : (1 : UInt16).toNat = 1 := rfl
          rw [this]
          omega
        have hl : lst (r.1, r.2 + 1) = n := by
          unfold lst at e2 ⊢
          simp only
          rw [h2]
          omega
        rw [e, e1, bump_snoc]
        rw [e1] at i1 i2 i4
        obtain ⟨j1, j2, j3, j4⟩ := mayr_snoc.1 i1
        refine ⟨mayr_snoc.2 ⟨j1, j2, j3, by rw [hl]; omega⟩, fun x => ?_, fun _ => ⟨l, _, rfl, by rw [hl]; omega⟩, ?_⟩
        · have hx := i2 x
          rw [mr_app, mr_cons, mr_nil, Bool.or_false] at hx ⊢
          by_cases hxn : x = n
          · subst hxn
            have : inr (r.1, r.2 + 1) x = true := (inr_iff _ _).2 ⟨by have := fst_le r; simp only; omega, by rw [hl]; exact Nat.le_refl _⟩
            rw [this, hp]
            simp
          · have e3 : inr (r.1, r.2 + 1) x = inr r x := by
              rw [Bool.eq_iff_iff, inr_iff, inr_iff, hl, e2]
              simp only
              omega
            rw [e3, hx]
            congr 1
            exact decide_eq_decide.2 (by omega)
        · rw [ct, hm0, ← i4]; simp
      | false =>
        have e : rs p (n + 1) = rs p n ++ [(UInt16.ofNat n, 0)] := by rw [rs, hp, hq]; simp
        have hm1 : hm p n = true := by
          unfold hm
          rw [hp, Bool.true_and]
          by_cases h0 : n = 0
          · simp [h0]
          · rw [decide_eq_true (by omega), Bool.true_and] at hq
            rw [hq]
            simp
        have hf : (UInt16.ofNat n).toNat = n := u16_of n (by omega)
        have hl : lst (UInt16.ofNat n, 0) = n := by unfold lst; simp only; rw [hf]; rfl
        rw [e]
        refine ⟨mayr_snoc.2 ⟨i1, fun s hs => ?_, Nat.zero_le _, by rw [hl]; omega⟩, fun x => ?_, fun _ => ⟨_, _, rfl, by rw [hl]; omega⟩, ?_⟩
        · have h1 := i2 (lst s)
          rw [mr_last hs] at h1
          have h2 := h1.symm
          rw [Bool.and_eq_true, decide_eq_true_eq] at h2
          simp only
          rw [hf]
          rcases Nat.lt_or_ge (lst s + 1) n with h3 | h3
          · omega
          · have h4 : lst s = n - 1 := by omega
            rw [← h4, h2.2, decide_eq_true (by omega)] at hq
            cases hq
        · rw [mr_app, mr_cons, mr_nil, Bool.or_false, i2]
          by_cases hxn : x = n
          · subst hxn
            have : inr (UInt16.ofNat x, 0) x = true := (inr_iff _ _).2 ⟨by simp only; omega, by rw [hl]; exact Nat.le_refl _⟩
            rw [this, hp]
            simp
          · have e3 : inr (UInt16.ofNat n, 0) x = false := by
              rw [Bool.eq_false_iff]
              intro hh
              have := (inr_iff _ _).1 hh
              rw [hl] at this
              simp only at this
              omega
            rw [e3, Bool.or_false]
            congr 1
            exact decide_eq_decide.2 (by omega)
        · rw [List.length_append, i4, ct, hm1]; rfl
theorem mayr_rs (p : Nat → Bool) : mayr 0 (rs p 65536) = true := (rs_inv p 65536 (Nat.le_refl _)).1
theorem mr_rs (p : Nat → Bool) {x : Nat} (hx : x < 65536) : mr (rs p 65536) x = p x := by
  rw [(rs_inv p 65536 (Nat.le_refl _)).2.1, decide_eq_true hx, Bool.true_and]
theorem rs_len (p : Nat → Bool) : (rs p 65536).length = ct (hm p) 65536 := (rs_inv p 65536 (Nat.le_refl _)).2.2.2
/-- Right runs are the runs of their marks. -/
theorem rs_mr {l : List Rn} (h : mayr 0 l = true) {p : Nat → Bool} (hp : ∀ x, x < 65536 → mr l x = p x) : l = rs p 65536 := by
  refine mr_inj h (mayr_rs p) fun x => ?_
  rw [(rs_inv p 65536 (Nat.le_refl _)).2.1]
  by_cases hx : x < 65536
  · rw [decide_eq_true hx, Bool.true_and, hp x hx]
  · rw [decide_eq_false hx, Bool.false_and, Bool.eq_false_iff]
    intro hh
    have := (mr_ge h hh).2
    omega
theorem rs_ext {p q : Nat → Bool} (h : ∀ x, x < 65536 → p x = q x) : rs p 65536 = rs q 65536 :=
  rs_mr (mayr_rs p) fun x hx => (mr_rs p hx).trans (h x hx)

/- Counting. -/
theorem ct_or {p q : Nat → Bool} {n : Nat} (h : ∀ x, x < n → ¬ (p x = true ∧ q x = true)) : ct (fun x => p x || q x) n = ct p n + ct q n := by
  induction n with
  | zero => rfl
  | succ n ih =>
    rw [ct, ct, ct, ih fun x hx => h x (by omega)]
    have := h n (Nat.lt_succ_self n)
    revert this
    cases p n <;> cases q n <;> simp <;> omega
theorem ct_inr (r : Rn) (n : Nat) : ct (inr r) n = min n (lst r + 1) - min n r.1.toNat := by
  have hf := fst_le r
  induction n with
  | zero => simp [ct]
  | succ n ih =>
    rw [ct, ih]
    cases hi : inr r n with
    | true =>
      have := (inr_iff _ _).1 hi
      simp only [Bool.toNat_true]
      omega
    | false =>
      have : ¬ (r.1.toNat ≤ n ∧ n ≤ lst r) := fun h => by rw [(inr_iff _ _).2 h] at hi; cases hi
      simp only [Bool.toNat_false]
      omega
theorem ct_mr_cons {m n : Nat} {r : Rn} {l : List Rn} (h : mayr m (r :: l) = true) : ct (mr (r :: l)) n = (min n (lst r + 1) - min n r.1.toNat) + ct (mr l) n := by
  obtain ⟨h1, h2, h3⟩ := mayr_cons.1 h
  have e : ct (mr (r :: l)) n = ct (fun x => inr r x || mr l x) n := ct_ext fun x _ => mr_cons r l x
  rw [e, ct_or (fun x _ hh => by have := ((inr_iff _ _).1 hh.1).2; have := (mr_ge h3 hh.2).1; omega), ct_inr]
/-- Below the first one there is none. -/
theorem ct_mr_zero {m n : Nat} {l : List Rn} (h : mayr m l = true) (hn : n ≤ m) : ct (mr l) n = 0 := ct_zero fun x hx => by
  rw [Bool.eq_false_iff]
  intro hh
  have := (mr_ge h hh).1
  omega
end Go.Proofs.YtfefmlnlicilbaaGreatDoor
namespace Go.Proofs.YtfefmlnlicilbaaGreatDoor
set_option linter.unusedVariables false
/-- The place of the next edge. -/
def edg : List Rn → Bool → Int
  | [], _ => 9223372036854775807
  | r :: _, true => (r.1.toNat : Int) + ((r.2.toNat : Int) + 1)
  | r :: _, false => (r.1.toNat : Int)
/-- The edge passed, where it is at that place. -/
def psf (s : List Rn × Bool) (at_ : Int) : List Rn × Bool :=
  if edg s.1 s.2 = at_ then (if s.2 = true then s.1.tail else s.1, !s.2) else s
/-- The runs of the numbers from lo on, below hi. -/
def btw (lo hi : Int) : List Rn := if hi ≤ lo then [] else [(UInt16.ofNat lo.toNat, UInt16.ofNat (hi - lo - 1).toNat)]
/-- The next place where there are edges. -/
def nxt (a b : List Rn × Bool) : Int := min (edg a.1 a.2) (edg b.1 b.2)
/-- How many edges are ahead. -/
def ahd (s : List Rn × Bool) : Nat := 2 * s.1.length - s.2.toNat
/-- The runs of what is taken, from the edges ahead; the open one's beginning, if one is open. -/
def pr (t : Bool → Bool → Bool) : Nat → Option Int → List Rn × Bool → List Rn × Bool → List Rn
  | 0, _, _, _ => []
  | f + 1, o, a, b =>
    if a.1 = [] ∧ b.1 = [] then [] else
      match o with
      | none => if t (psf a (nxt a b)).2 (psf b (nxt a b)).2 = true then pr t f (some (nxt a b)) (psf a (nxt a b)) (psf b (nxt a b)) else pr t f none (psf a (nxt a b)) (psf b (nxt a b))
      | some lo => if t (psf a (nxt a b)).2 (psf b (nxt a b)).2 = true then pr t f (some lo) (psf a (nxt a b)) (psf b (nxt a b)) else btw lo (nxt a b) ++ pr t f none (psf a (nxt a b)) (psf b (nxt a b))
theorem edg_nil (b : Bool) : edg [] b = 9223372036854775807 := by cases b <;> rfl
theorem pr_nil (t : Bool → Bool → Bool) (f : Nat) (o : Option Int) {a b : List Rn × Bool} (h : a.1 = [] ∧ b.1 = []) : pr t f o a b = [] := by
  cases f with
  | zero => rfl
  | succ f => rw [pr.eq_def]; simp only [if_pos h]
theorem pr_none (t : Bool → Bool → Bool) (f : Nat) {a b : List Rn × Bool} (h : ¬ (a.1 = [] ∧ b.1 = [])) :
    pr t (f + 1) none a b = if t (psf a (nxt a b)).2 (psf b (nxt a b)).2 = true then pr t f (some (nxt a b)) (psf a (nxt a b)) (psf b (nxt a b)) else pr t f none (psf a (nxt a b)) (psf b (nxt a b)) := by
  rw [pr.eq_def]; simp only [if_neg h]
theorem pr_some (t : Bool → Bool → Bool) (f : Nat) (lo : Int) {a b : List Rn × Bool} (h : ¬ (a.1 = [] ∧ b.1 = [])) :
    pr t (f + 1) (some lo) a b = if t (psf a (nxt a b)).2 (psf b (nxt a b)).2 = true then pr t f (some lo) (psf a (nxt a b)) (psf b (nxt a b)) else btw lo (nxt a b) ++ pr t f none (psf a (nxt a b)) (psf b (nxt a b)) := by
  rw [pr.eq_def]; simp only [if_neg h]
theorem edg_lt {l : List Rn} (h : l ≠ []) (b : Bool) : 0 ≤ edg l b ∧ edg l b ≤ 131071 := by
  cases l with
  | nil => exact absurd rfl h
  | cons r l =>
    have h1 := r.1.toNat_lt
    have h2 := r.2.toNat_lt
    cases b <;> simp only [edg] <;> omega
theorem nxt_lt {a b : List Rn × Bool} (h : ¬ (a.1 = [] ∧ b.1 = [])) : 0 ≤ nxt a b ∧ nxt a b ≤ 131071 := by
  unfold nxt
  by_cases ha : a.1 = []
  · have hb : b.1 ≠ [] := fun e => h ⟨ha, e⟩
    have := edg_lt hb b.2
    rw [ha, edg_nil]
    omega
  · have := edg_lt ha a.2
    by_cases hb : b.1 = []
    · rw [hb, edg_nil]
      omega
    · have := edg_lt hb b.2
      omega
/-- Where a run has begun, there is one. -/
def sok (s : List Rn × Bool) : Prop := s.2 = true → s.1 ≠ []
theorem sok_psf {s : List Rn × Bool} (h : sok s) {at_ : Int} (ha : at_ ≤ 131071) : sok (psf s at_) := by
  obtain ⟨l, b⟩ := s
  unfold psf
  split
  · rename_i he
    cases l with
    | nil => simp only [edg] at he; omega
    | cons r l => cases b <;> simp [sok]
  · exact h
theorem ahd_psf_le {s : List Rn × Bool} (h : sok s) (at_ : Int) : ahd (psf s at_) ≤ ahd s := by
  obtain ⟨l, b⟩ := s
  unfold psf
  split
  · cases l with
    | nil => cases b with
      | true => exact absurd rfl (h rfl)
      | false => simp [ahd]
    | cons r l => cases b <;> simp [ahd] <;> omega
  · exact Nat.le_refl _
theorem ahd_psf_lt {s : List Rn × Bool} (h : sok s) {at_ : Int} (ha : at_ ≤ 131071) (he : edg s.1 s.2 = at_) : ahd (psf s at_) < ahd s := by
  obtain ⟨l, b⟩ := s
  unfold psf
  rw [if_pos he]
  cases l with
  | nil => simp only [edg] at he; omega
  | cons r l => cases b <;> simp [ahd] <;> omega
/-- Each pass goes on. -/
theorem ahd_nxt {a b : List Rn × Bool} (ha : sok a) (hb : sok b) (h : ¬ (a.1 = [] ∧ b.1 = [])) : ahd (psf a (nxt a b)) + ahd (psf b (nxt a b)) < ahd a + ahd b := by
  have hl := (nxt_lt h).2
  have h1 := ahd_psf_le ha (nxt a b)
  have h2 := ahd_psf_le hb (nxt a b)
  have : edg a.1 a.2 = nxt a b ∨ edg b.1 b.2 = nxt a b := by unfold nxt; omega
  rcases this with e | e
  · have := ahd_psf_lt ha hl e; omega
  · have := ahd_psf_lt hb hl e; omega
theorem btw_len (lo hi : Int) : (btw lo hi).length ≤ 1 := by unfold btw; split <;> simp
theorem pr_len (t : Bool → Bool → Bool) (f : Nat) (o : Option Int) (a b : List Rn × Bool) : (pr t f o a b).length ≤ f := by
  induction f generalizing o a b with
  | zero => simp [pr]
  | succ f ih =>
    unfold pr
    split
    · simp
    · cases o with
      | none => simp only; split <;> exact Nat.le_succ_of_le (ih _ _ _)
      | some lo =>
        simp only
        split
        · exact Nat.le_succ_of_le (ih _ _ _)
        · rw [List.length_append]
          have := btw_len lo (nxt a b)
          have := ih none (psf a (nxt a b)) (psf b (nxt a b))
          omega
/-- All edges ahead lie at p or above, as right runs' do. -/
def good (p : Nat) : List Rn × Bool → Prop
  | (l, false) => mayr p l = true
  | (r :: l, true) => p ≤ lst r + 1 ∧ lst r ≤ 65535 ∧ mayr (lst r + 2) l = true
  | ([], true) => False
/-- The marks ahead. -/
def vs : List Rn × Bool → Nat → Bool
  | (l, false), x => mr l x
  | (r :: l, true), x => decide (x ≤ lst r) || mr l x
  | ([], true), _ => false
theorem good_edg {p : Nat} {s : List Rn × Bool} (h : good p s) : (p : Int) ≤ edg s.1 s.2 ∨ s.1 = [] := by
  obtain ⟨l, b⟩ := s
  cases l with
  | nil => exact .inr rfl
  | cons r l =>
    left
    cases b with
    | false =>
      have := (mayr_cons.1 h).1
      simp only [edg]
      omega
    | true =>
      have := h.1
      unfold lst at this
      simp only [edg]
      omega
theorem good_psf {p : Nat} {s : List Rn × Bool} (h : good p s) {q : Nat} (hp : p ≤ q) (hq : (q : Int) ≤ edg s.1 s.2) (hl : (q : Int) ≤ 131071) : good (q + 1) (psf s (q : Int)) := by
  obtain ⟨l, b⟩ := s
  unfold psf
  cases l with
  | nil =>
    rw [if_neg (by simp only [edg]; omega)]
    cases b with
    | false => exact rfl
    | true => exact h
  | cons r l =>
    have hf := fst_le r
    cases b with
    | false =>
      obtain ⟨h1, h2, h3⟩ := mayr_cons.1 h
      simp only [edg] at hq ⊢
      split
      · rename_i he
        simp only [Bool.false_eq_true, if_false, Bool.not_false, good]
        exact ⟨by omega, h2, h3⟩
      · exact mayr_cons.2 ⟨by omega, h2, h3⟩
    | true =>
      obtain ⟨h1, h2, h3⟩ := h
      simp only [edg] at hq ⊢
      split
      · rename_i he
        simp only [if_true, Bool.not_true, good, List.tail_cons]
        unfold lst at h3
        have e : q + 1 = r.1.toNat + r.2.toNat + 2 := by omega
        rw [e]
        exact h3
      · refine ⟨?_, h2, h3⟩
        unfold lst
        omega
theorem vs_psf {s : List Rn × Bool} {q x : Nat} (hl : (q : Int) ≤ 131071) (hx : q ≤ x) : vs (psf s (q : Int)) x = vs s x := by
  obtain ⟨l, b⟩ := s
  unfold psf
  split
  · rename_i he
    cases l with
    | nil => simp only [edg] at he; omega
    | cons r l =>
      have hf := fst_le r
      cases b with
      | false =>
        simp only [edg] at he
        simp only [Bool.false_eq_true, if_false, Bool.not_false, vs]
        rw [mr_cons]
        unfold inr
        rw [decide_eq_true (by omega : r.1.toNat ≤ x), Bool.true_and]
      | true =>
        simp only [edg] at he
        simp only [if_true, Bool.not_true, vs, List.tail_cons]
        rw [decide_eq_false (by unfold lst; omega), Bool.false_or]
  · rfl
/-- Up to the next edge nothing turns. -/
theorem vs_ahead {p : Nat} {s : List Rn × Bool} (h : good p s) {x : Nat} (hx : (x : Int) < edg s.1 s.2) : vs s x = s.2 := by
  obtain ⟨l, b⟩ := s
  cases b with
  | false =>
    simp only [vs]
    rw [Bool.eq_false_iff]
    intro hm
    cases l with
    | nil => cases hm
    | cons r l =>
      have hm2 : mayr r.1.toNat (r :: l) = true := by
        obtain ⟨h1, h2, h3⟩ := mayr_cons.1 h
        exact mayr_cons.2 ⟨Nat.le_refl _, h2, h3⟩
      have := (mr_ge hm2 hm).1
      simp only [edg] at hx
      omega
  | true =>
    cases l with
    | nil => exact h.elim
    | cons r l =>
      simp only [edg] at hx
      simp only [vs]
      rw [decide_eq_true (by unfold lst; omega), Bool.true_or]
theorem vs_nil {p : Nat} {s : List Rn × Bool} (h : good p s) (hs : s.1 = []) : s.2 = false ∧ ∀ x, vs s x = false := by
  obtain ⟨l, b⟩ := s
  simp only at hs
  subst hs
  cases b with
  | false => exact ⟨rfl, fun x => rfl⟩
  | true => exact h.elim
theorem edg_le {p : Nat} {s : List Rn × Bool} (h : good p s) (hs : s.1 ≠ []) : edg s.1 s.2 ≤ 65536 := by
  obtain ⟨l, b⟩ := s
  cases l with
  | nil => exact absurd rfl hs
  | cons r l =>
    have hf := fst_le r
    cases b with
    | false =>
      have := (mayr_cons.1 h).2.1
      simp only [edg]
      omega
    | true =>
      have := h.2.1
      unfold lst at this
      simp only [edg]
      omega
theorem btw_right {lo hi : Nat} (h : lo < hi) (hh : hi ≤ 65536) : ∃ r, btw (lo : Int) (hi : Int) = [r] ∧ r.1.toNat = lo ∧ lst r + 1 = hi := by
  refine ⟨_, by unfold btw; rw [if_neg (by omega)], ?_, ?_⟩
  · simp only [Int.toNat_natCast]; exact u16_of lo (by omega)
  · unfold lst
    have e : ((hi : Int) - lo - 1).toNat = hi - lo - 1 := by omega
    simp only [Int.toNat_natCast]
    rw [e, u16_of lo (by omega), u16_of _ (by omega)]
    omega
theorem pr_right (t : Bool → Bool → Bool) (t0 : t false false = false) (f : Nat) : ∀ (p : Nat) (o : Option Nat) (a b : List Rn × Bool), good p a → good p b → ahd a + ahd b ≤ f →
    (o = none → t a.2 b.2 = false → mayr p (pr t f (o.map Int.ofNat) a b) = true ∧ ∀ x, p ≤ x + 1 → mr (pr t f (o.map Int.ofNat) a b) x = t (vs a x) (vs b x)) ∧
    (∀ lo, o = some lo → t a.2 b.2 = true → lo < p → mayr lo (pr t f (o.map Int.ofNat) a b) = true ∧ ∀ x, lo ≤ x → mr (pr t f (o.map Int.ofNat) a b) x = (decide (x < p) || t (vs a x) (vs b x))) := by
  induction f with
  | zero =>
    intro p o a b ha hb hf
    have na : a.1 = [] := by
      obtain ⟨l, c⟩ := a
      cases l with
      | nil => rfl
      | cons r l => cases c <;> simp [ahd] at hf <;> omega
    have nb : b.1 = [] := by
      obtain ⟨l, c⟩ := b
      cases l with
      | nil => rfl
      | cons r l => cases c <;> simp [ahd] at hf <;> omega
    obtain ⟨a1, a2⟩ := vs_nil ha na
    obtain ⟨b1, b2⟩ := vs_nil hb nb
    refine ⟨fun _ _ => ⟨rfl, fun x _ => by rw [a2, b2, t0]; rfl⟩, fun lo _ h => ?_⟩
    rw [a1, b1, t0] at h
    cases h
  | succ f ih =>
    intro p o a b ha hb hf
    by_cases hn : a.1 = [] ∧ b.1 = []
    · obtain ⟨a1, a2⟩ := vs_nil ha hn.1
      obtain ⟨b1, b2⟩ := vs_nil hb hn.2
      refine ⟨fun _ _ => ?_, fun lo _ h => ?_⟩
      · have e : pr t (f + 1) (o.map Int.ofNat) a b = [] := pr_nil t _ _ hn
        rw [e]
        exact ⟨rfl, fun x _ => by rw [a2, b2, t0]; rfl⟩
      · rw [a1, b1, t0] at h
        cases h
    · have hl := nxt_lt hn
      obtain ⟨q, hq⟩ : ∃ q : Nat, nxt a b = (q : Int) := ⟨(nxt a b).toNat, by omega⟩
      have ka : sok a := by
        obtain ⟨l, c⟩ := a
        cases l with
        | nil => cases c with
          | false => intro h; cases h
          | true => exact ha.elim
        | cons r l => intro _; simp
      have kb : sok b := by
        obtain ⟨l, c⟩ := b
        cases l with
        | nil => cases c with
          | false => intro h; cases h
          | true => exact hb.elim
        | cons r l => intro _; simp
      have hm := ahd_nxt ka kb hn
      have qa : (q : Int) ≤ edg a.1 a.2 := by rw [← hq]; exact Int.min_le_left _ _
      have qb : (q : Int) ≤ edg b.1 b.2 := by rw [← hq]; exact Int.min_le_right _ _
      have hpq : p ≤ q := by
        have e1 := good_edg ha
        have e2 := good_edg hb
        have e3 : nxt a b = edg a.1 a.2 ∨ nxt a b = edg b.1 b.2 := by unfold nxt; omega
        rcases e1 with e1 | e1
        · rcases e2 with e2 | e2
          · omega
          · have : edg b.1 b.2 = 9223372036854775807 := by rw [e2]; rfl
            omega
        · rcases e2 with e2 | e2
          · have : edg a.1 a.2 = 9223372036854775807 := by rw [e1]; rfl
            omega
          · exact absurd ⟨e1, e2⟩ hn
      have q6 : q ≤ 65536 := by
        by_cases na : a.1 = []
        · have := edg_le hb (fun e => hn ⟨na, e⟩)
          omega
        · have := edg_le ha na
          omega
      rw [hq] at hm hl
      have ga := good_psf ha hpq qa hl.2
      have gb := good_psf hb hpq qb hl.2
      have vt : ∀ x, q ≤ x → t (vs (psf a (q : Int)) x) (vs (psf b (q : Int)) x) = t (vs a x) (vs b x) := fun x hx => by rw [vs_psf hl.2 hx, vs_psf hl.2 hx]
      have va : ∀ x, x < q → t (vs a x) (vs b x) = t a.2 b.2 := fun x hx => by rw [vs_ahead ha (by omega), vs_ahead hb (by omega)]
      refine ⟨fun ho h0 => ?_, fun lo ho h1 hlo => ?_⟩
      · subst ho
        have e : pr t (f + 1) (Option.map Int.ofNat none) a b = if t (psf a (q : Int)).2 (psf b (q : Int)).2 = true then pr t f (some (q : Int)) (psf a (q : Int)) (psf b (q : Int)) else pr t f none (psf a (q : Int)) (psf b (q : Int)) := by
          rw [Option.map_none, pr_none t f hn, hq]
        rw [e]
        cases ht : t (psf a (q : Int)).2 (psf b (q : Int)).2 with
        | true =>
          rw [if_pos rfl]
          obtain ⟨i1, i2⟩ := (ih (q + 1) (some q) _ _ ga gb (by omega)).2 q rfl ht (by omega)
          simp only [Option.map_some, Int.ofNat_eq_natCast] at i1 i2
          refine ⟨mayr_mono hpq i1, fun x hx => ?_⟩
          rcases Nat.lt_or_ge x q with hxq | hxq
          · rw [va x hxq, h0, Bool.eq_false_iff]
            intro hm
            have := (mr_ge i1 hm).1
            omega
          · rw [i2 x hxq, vt x hxq]
            rcases Nat.lt_or_ge q x with hh | hh
            · rw [decide_eq_false (by omega), Bool.false_or]
            · have hxe : x = q := by omega
              subst hxe
              rw [decide_eq_true (by omega), Bool.true_or, ← vt x (Nat.le_refl _)]
              have za : vs (psf a (x : Int)) x = (psf a (x : Int)).2 := by
                rcases good_edg ga with e | e
                · exact vs_ahead ga (by omega)
                · rw [(vs_nil ga e).2, (vs_nil ga e).1]
              have zb : vs (psf b (x : Int)) x = (psf b (x : Int)).2 := by
                rcases good_edg gb with e | e
                · exact vs_ahead gb (by omega)
                · rw [(vs_nil gb e).2, (vs_nil gb e).1]
              rw [za, zb, ht]
        | false =>
          rw [if_neg (by simp)]
          obtain ⟨i1, i2⟩ := (ih (q + 1) none _ _ ga gb (by omega)).1 rfl ht
          simp only [Option.map_none] at i1 i2
          refine ⟨mayr_mono (by omega) i1, fun x hx => ?_⟩
          rcases Nat.lt_or_ge x q with hxq | hxq
          · rw [va x hxq, h0, Bool.eq_false_iff]
            intro hm
            have := (mr_ge i1 hm).1
            omega
          · rw [i2 x (by omega), vt x hxq]
      · subst ho
        have e : pr t (f + 1) (Option.map Int.ofNat (some lo)) a b = if t (psf a (q : Int)).2 (psf b (q : Int)).2 = true then pr t f (some (lo : Int)) (psf a (q : Int)) (psf b (q : Int)) else btw (lo : Int) (q : Int) ++ pr t f none (psf a (q : Int)) (psf b (q : Int)) := by
          rw [Option.map_some, Int.ofNat_eq_natCast, pr_some t f _ hn, hq]
        rw [e]
        cases ht : t (psf a (q : Int)).2 (psf b (q : Int)).2 with
        | true =>
          rw [if_pos rfl]
          obtain ⟨i1, i2⟩ := (ih (q + 1) (some lo) _ _ ga gb (by omega)).2 lo rfl ht (by omega)
          simp only [Option.map_some, Int.ofNat_eq_natCast] at i1 i2
          refine ⟨i1, fun x hx => ?_⟩
          rw [i2 x hx]
          rcases Nat.lt_or_ge x q with hxq | hxq
          · rw [va x hxq, h1, decide_eq_true (by omega), Bool.true_or, Bool.or_true]
          · rw [vt x hxq]
            rcases Nat.lt_or_ge q x with hh | hh
            · rw [decide_eq_false (by omega), decide_eq_false (by omega)]
            · have hxe : x = q := by omega
              subst hxe
              rw [decide_eq_true (by omega), Bool.true_or, decide_eq_false (by omega), Bool.false_or, ← vt x (Nat.le_refl _)]
              have za : vs (psf a (x : Int)) x = (psf a (x : Int)).2 := by
                rcases good_edg ga with e | e
                · exact vs_ahead ga (by omega)
                · rw [(vs_nil ga e).2, (vs_nil ga e).1]
              have zb : vs (psf b (x : Int)) x = (psf b (x : Int)).2 := by
                rcases good_edg gb with e | e
                · exact vs_ahead gb (by omega)
                · rw [(vs_nil gb e).2, (vs_nil gb e).1]
              rw [za, zb, ht]
        | false =>
          rw [if_neg (by simp)]
          obtain ⟨i1, i2⟩ := (ih (q + 1) none _ _ ga gb (by omega)).1 rfl ht
          simp only [Option.map_none] at i1 i2
          obtain ⟨r, e1, e2, e3⟩ := btw_right (lo := lo) (hi := q) (by omega) q6
          rw [e1, List.singleton_append]
          refine ⟨mayr_cons.2 ⟨by omega, by omega, mayr_mono (by omega) i1⟩, fun x hx => ?_⟩
          rw [mr_cons]
          rcases Nat.lt_or_ge x q with hxq | hxq
          · rw [va x hxq, h1, (inr_iff _ _).2 ⟨by omega, by omega⟩, Bool.true_or, Bool.or_true]
          · have : inr r x = false := by
              rw [Bool.eq_false_iff]
              intro hh
              have := ((inr_iff _ _).1 hh).2
              omega
            rw [this, Bool.false_or, i2 x (by omega), vt x hxq, decide_eq_false (by omega), Bool.false_or]
/-- The runs of what is taken of two rows. -/
def pd (t : Bool → Bool → Bool) (a b : List Rn) : List Rn := pr t (2 * a.length + 2 * b.length) none (a, false) (b, false)
theorem pd_right {t : Bool → Bool → Bool} (t0 : t false false = false) {a b : List Rn} (ha : mayr 0 a = true) (hb : mayr 0 b = true) :
    mayr 0 (pd t a b) = true ∧ ∀ x, mr (pd t a b) x = t (mr a x) (mr b x) := by
  obtain ⟨h1, h2⟩ := (pr_right t t0 (2 * a.length + 2 * b.length) 0 none (a, false) (b, false) ha hb (by simp [ahd])).1 rfl t0
  exact ⟨h1, fun x => h2 x (Nat.zero_le _)⟩
theorem pd_len (t : Bool → Bool → Bool) (a b : List Rn) : (pd t a b).length ≤ 2 * a.length + 2 * b.length := pr_len ..
/-- The fuel is enough: more of it changes nothing. -/
theorem pr_more (t : Bool → Bool → Bool) (f : Nat) : ∀ (g : Nat) (o : Option Int) (a b : List Rn × Bool), sok a → sok b → ahd a + ahd b ≤ f → f ≤ g → pr t g o a b = pr t f o a b := by
  induction f with
  | zero =>
    intro g o a b ka kb h hg
    have na : a.1 = [] := by
      obtain ⟨l, c⟩ := a
      cases l with
      | nil => rfl
      | cons r l => cases c <;> simp [ahd] at h <;> omega
    have nb : b.1 = [] := by
      obtain ⟨l, c⟩ := b
      cases l with
      | nil => rfl
      | cons r l => cases c <;> simp [ahd] at h <;> omega
    rw [pr_nil t g o ⟨na, nb⟩, pr_nil t 0 o ⟨na, nb⟩]
  | succ f ih =>
    intro g o a b ka kb h hg
    obtain ⟨g, rfl⟩ : ∃ g', g = g' + 1 := ⟨g - 1, by omega⟩
    by_cases hn : a.1 = [] ∧ b.1 = []
    · rw [pr_nil t _ o hn, pr_nil t _ o hn]
    · have hm := ahd_nxt ka kb hn
      have hl := (nxt_lt hn).2
      have k1 := sok_psf ka hl
      have k2 := sok_psf kb hl
      cases o with
      | none => rw [pr_none t g hn, pr_none t f hn, ih g _ _ _ k1 k2 (by omega) (by omega), ih g _ _ _ k1 k2 (by omega) (by omega)]
      | some lo => rw [pr_some t g lo hn, pr_some t f lo hn, ih g _ _ _ k1 k2 (by omega) (by omega), ih g _ _ _ k1 k2 (by omega) (by omega)]
end Go.Proofs.YtfefmlnlicilbaaGreatDoor
