/- Plain mathematics: the search by halves, a number put in, runs, marks. No Go in sight. -/
import Derived.WalkKit
/- Plain mathematics: rising rows of numbers from 0 to 65535. No Go in sight. -/
namespace Go.Proofs.YtcmifbjeabkihabGreatDoor

/-- The row rises. -/
def ris : List UInt16 → Bool
  | x :: y :: l => decide (x.toNat < y.toNat) && ris (y :: l)
  | _ => true
theorem u16_eq {x y : UInt16} (h : x.toNat = y.toNat) : x = y := UInt16.toNat_inj.1 h
theorem u16_lt (x : UInt16) : x.toNat < 65536 := x.toNat_lt
theorem u16_of (n : Nat) (h : n < 65536) : (UInt16.ofNat n).toNat = n := by simp; omega
theorem ris_tail {x : UInt16} {l : List UInt16} (h : ris (x :: l) = true) : ris l = true := by
  cases l with
  | nil => rfl
  | cons y l => simp [ris] at h; exact h.2
theorem ris_lt {x : UInt16} {l : List UInt16} (h : ris (x :: l) = true) : ∀ y ∈ l, x.toNat < y.toNat := by
  induction l generalizing x with
  | nil => intro y hy; cases hy
  | cons z l ih =>
    simp [ris] at h
    intro y hy
    rcases List.mem_cons.1 hy with rfl | hy
    · exact h.1
    · have := ih h.2 y hy
      omega
theorem ris_cons {x : UInt16} {l : List UInt16} (h1 : ∀ y ∈ l, x.toNat < y.toNat) (h2 : ris l = true) : ris (x :: l) = true := by
  cases l with
  | nil => rfl
  | cons z l =>
    simp [ris]
    exact ⟨h1 z (by simp), h2⟩
theorem ris_iff {x : UInt16} {l : List UInt16} : ris (x :: l) = true ↔ (∀ y ∈ l, x.toNat < y.toNat) ∧ ris l = true :=
  ⟨fun h => ⟨ris_lt h, ris_tail h⟩, fun h => ris_cons h.1 h.2⟩
theorem ris_ext {a b : List UInt16} (ha : ris a = true) (hb : ris b = true) (h : ∀ z, z ∈ a ↔ z ∈ b) : a = b := by
  induction a generalizing b with
  | nil =>
    cases b with
    | nil => rfl
    | cons y b => exact absurd ((h y).2 (by simp)) (by simp)
  | cons x a ih =>
    cases b with
    | nil => exact absurd ((h x).1 (by simp)) (by simp)
    | cons y b =>
      have h1 := ris_lt ha
      have h2 := ris_lt hb
      have e : x = y := by
        apply u16_eq
        have hx := (h x).1 (by simp)
        have hy := (h y).2 (by simp)
        rcases List.mem_cons.1 hx with rfl | hx
        · rfl
        rcases List.mem_cons.1 hy with rfl | hy
        · rfl
        have := h1 y hy
        have := h2 x hx
        omega
      subst e
      rw [ih (ris_tail ha) (ris_tail hb) fun z => ?_]
      constructor
      · intro hz
        rcases List.mem_cons.1 ((h z).1 (by simp [hz])) with rfl | h3
        · have := h1 z hz; omega
        · exact h3
      · intro hz
        rcases List.mem_cons.1 ((h z).2 (by simp [hz])) with rfl | h3
        · have := h2 z hz; omega
        · exact h3
theorem ris_filter (p : UInt16 → Bool) {l : List UInt16} (h : ris l = true) : ris (l.filter p) = true := by
  induction l with
  | nil => rfl
  | cons x l ih =>
    rw [List.filter_cons]
    split
    · exact ris_cons (fun y hy => ris_lt h y (List.mem_filter.1 hy).1) (ih (ris_tail h))
    · exact ih (ris_tail h)
theorem ris_nodup {l : List UInt16} (h : ris l = true) : l.Nodup := by
  induction l with
  | nil => exact List.nodup_nil
  | cons x l ih =>
    refine List.nodup_cons.2 ⟨fun hx => ?_, ih (ris_tail h)⟩
    have := ris_lt h x hx
    omega
theorem ris_app {a b : List UInt16} (ha : ris a = true) (hb : ris b = true) (h : ∀ x ∈ a, ∀ y ∈ b, x.toNat < y.toNat) : ris (a ++ b) = true := by
  induction a with
  | nil => exact hb
  | cons x a ih =>
    rw [List.cons_append]
    refine ris_cons (fun y hy => ?_) (ih (ris_tail ha) fun z hz => h z (by simp [hz]))
    rcases List.mem_append.1 hy with hy | hy
    · exact ris_lt ha y hy
    · exact h x (by simp) y hy
theorem ris_split {a b : List UInt16} (h : ris (a ++ b) = true) : ris a = true ∧ ris b = true ∧ ∀ x ∈ a, ∀ y ∈ b, x.toNat < y.toNat := by
  induction a with
  | nil => exact ⟨rfl, h, fun x hx => by cases hx⟩
  | cons x a ih =>
    rw [List.cons_append] at h
    have h1 := ris_lt h
    obtain ⟨h2, h3, h4⟩ := ih (ris_tail h)
    refine ⟨ris_cons (fun y hy => h1 y (by simp [hy])) h2, h3, fun z hz y hy => ?_⟩
    rcases List.mem_cons.1 hz with rfl | hz
    · exact h1 y (by simp [hy])
    · exact h4 z hz y hy

/-- Two rows side by side: the numbers of which f says yes. -/
def mg (f : Bool → Bool → Bool) : List UInt16 → List UInt16 → List UInt16
  | [], [] => []
  | x :: a, [] => (if f true false then [x] else []) ++ mg f a []
  | [], y :: b => (if f false true then [y] else []) ++ mg f [] b
  | x :: a, y :: b =>
    if x.toNat < y.toNat then (if f true false then [x] else []) ++ mg f a (y :: b)
    else if y.toNat < x.toNat then (if f false true then [y] else []) ++ mg f (x :: a) b
    else (if f true true then [x] else []) ++ mg f a b
termination_by a b => a.length + b.length
theorem mem_ite1 (c : Bool) (x z : UInt16) : z ∈ (if c = true then [x] else []) ↔ z = x ∧ c = true := by cases c <;> simp
theorem mg_sub (f : Bool → Bool → Bool) (a b : List UInt16) : ∀ z ∈ mg f a b, z ∈ a ∨ z ∈ b := by
  fun_induction mg f a b with
  | case1 => intro z hz; cases hz
  | case2 x a ih =>
    intro z hz
    rw [List.mem_append, mem_ite1] at hz
    rcases hz with ⟨rfl, _⟩ | hz
    · simp
    · have := ih z hz; simp_all
  | case3 y b ih =>
    intro z hz
    rw [List.mem_append, mem_ite1] at hz
    rcases hz with ⟨rfl, _⟩ | hz
    · simp
    · have := ih z hz; simp_all
  | case4 x a y b h ih =>
    intro z hz
    rw [List.mem_append, mem_ite1] at hz
    rcases hz with ⟨rfl, _⟩ | hz
    · simp
    · rcases ih z hz with h | h
      · simp [h]
      · exact .inr h
  | case5 x a y b h1 h2 ih =>
    intro z hz
    rw [List.mem_append, mem_ite1] at hz
    rcases hz with ⟨rfl, _⟩ | hz
    · simp
    · rcases ih z hz with h | h
      · exact .inl h
      · simp [h]
  | case6 x a y b h1 h2 ih =>
    intro z hz
    rw [List.mem_append, mem_ite1] at hz
    rcases hz with ⟨rfl, _⟩ | hz
    · simp
    · rcases ih z hz with h | h <;> simp [h]
theorem ris_mg (f : Bool → Bool → Bool) {a b : List UInt16} (ha : ris a = true) (hb : ris b = true) : ris (mg f a b) = true := by
  have key : ∀ (c : Bool) (x : UInt16) (l : List UInt16), (∀ y ∈ l, x.toNat < y.toNat) → ris l = true → ris ((if c = true then [x] else []) ++ l) = true := by
    intro c x l h1 h2
    cases c
    · exact h2
    · exact ris_cons h1 h2
  fun_induction mg f a b with
  | case1 => rfl
  | case2 x a ih => exact key _ _ _ (fun y hy => by rcases mg_sub f _ _ y hy with h | h; exact ris_lt ha y h; cases h) (ih (ris_tail ha) rfl)
  | case3 y b ih => exact key _ _ _ (fun z hz => by rcases mg_sub f _ _ z hz with h | h; cases h; exact ris_lt hb z h) (ih rfl (ris_tail hb))
  | case4 x a y b h ih =>
    refine key _ _ _ (fun z hz => ?_) (ih (ris_tail ha) hb)
    rcases mg_sub f _ _ z hz with h | h
    · exact ris_lt ha z h
    · rcases List.mem_cons.1 h with rfl | h
      · omega
      · have := ris_lt hb z h; omega
  | case5 x a y b h1 h2 ih =>
    refine key _ _ _ (fun z hz => ?_) (ih ha (ris_tail hb))
    rcases mg_sub f _ _ z hz with h | h
    · rcases List.mem_cons.1 h with rfl | h
      · omega
      · have := ris_lt ha z h; omega
    · exact ris_lt hb z h
  | case6 x a y b h1 h2 ih =>
    refine key _ _ _ (fun z hz => ?_) (ih (ris_tail ha) (ris_tail hb))
    rcases mg_sub f _ _ z hz with h | h
    · exact ris_lt ha z h
    · have := ris_lt hb z h; omega
theorem mg_mem (f : Bool → Bool → Bool) (hf : f false false = false) {a b : List UInt16} (ha : ris a = true) (hb : ris b = true) (z : UInt16) :
    z ∈ mg f a b ↔ f (decide (z ∈ a)) (decide (z ∈ b)) = true := by
  fun_induction mg f a b with
  | case1 => simp [hf]
  | case2 x a ih =>
    have h1 := ris_lt ha
    rw [List.mem_append, mem_ite1, ih (ris_tail ha) rfl]
    by_cases h : z = x
    · subst h
      have : z ∉ a := fun h => by have := h1 z h; omega
      simp [this, hf]
    · simp [h]
  | case3 y b ih =>
    have h1 := ris_lt hb
    rw [List.mem_append, mem_ite1, ih rfl (ris_tail hb)]
    by_cases h : z = y
    · subst h
      have : z ∉ b := fun h => by have := h1 z h; omega
      simp [this, hf]
    · simp [h]
  | case4 x a y b hxy ih =>
    have h1 := ris_lt ha
    have h2 := ris_lt hb
    rw [List.mem_append, mem_ite1, ih (ris_tail ha) hb]
    by_cases h : z = x
    · subst h
      have h3 : z ∉ a := fun h => by have := h1 z h; omega
      have h4 : z ∉ b := fun h => by have := h2 z h; omega
      have h5 : z ≠ y := by rintro rfl; omega
      simp [h3, h4, h5, hf]
    · simp [h]
  | case5 x a y b h0 hyx ih =>
    have h1 := ris_lt ha
    have h2 := ris_lt hb
    rw [List.mem_append, mem_ite1, ih ha (ris_tail hb)]
    by_cases h : z = y
    · subst h
      have h3 : z ∉ a := fun h => by have := h1 z h; omega
      have h4 : z ∉ b := fun h => by have := h2 z h; omega
      have h5 : z ≠ x := by rintro rfl; omega
      simp [h3, h4, h5, hf]
    · simp [h]
  | case6 x a y b h0 h0' ih =>
    have h1 := ris_lt ha
    have h2 := ris_lt hb
    obtain rfl : x = y := u16_eq (by omega)
    rw [List.mem_append, mem_ite1, ih (ris_tail ha) (ris_tail hb)]
    by_cases h : z = x
    · subst h
      have h3 : z ∉ a := fun h => by have := h1 z h; omega
      have h4 : z ∉ b := fun h => by have := h2 z h; omega
      simp [h3, h4, hf]
    · simp [h]

def fAnd (x y : Bool) : Bool := x && y
def fOr (x y : Bool) : Bool := x || y
def fNot (x y : Bool) : Bool := x && !y
def fXor (x y : Bool) : Bool := x != y
theorem mg_len (a b : List UInt16) : (mg fAnd a b).length + (mg fOr a b).length = a.length + b.length := by
  fun_induction mg fAnd a b with
  | case1 => simp [mg]
  | case2 x a ih => rw [mg]; simp [fAnd, fOr] at ih ⊢; omega
  | case3 y b ih => rw [mg]; simp [fAnd, fOr] at ih ⊢; omega
  | case4 x a y b h ih => rw [mg, if_pos h]; simp [fAnd, fOr] at ih ⊢; omega
  | case5 x a y b h h2 ih => rw [mg, if_neg h, if_pos h2]; simp [fAnd, fOr] at ih ⊢; omega
  | case6 x a y b h h2 ih => rw [mg, if_neg h, if_neg h2]; simp [fAnd, fOr] at ih ⊢; omega
theorem mg_le (f : Bool → Bool → Bool) (a b : List UInt16) : (mg f a b).length ≤ a.length + b.length := by
  have key : ∀ (c : Bool) (x : UInt16), (if c = true then [x] else []).length ≤ 1 := by intro c x; cases c <;> simp
  fun_induction mg f a b with
  | case1 => simp
  | case2 x a ih => have := key (f true false) x; simp only [List.length_append, List.length_cons, List.length_nil] at ih ⊢; omega
  | case3 y b ih => have := key (f false true) y; simp only [List.length_append, List.length_cons, List.length_nil] at ih ⊢; omega
  | case4 x a y b h ih => have := key (f true false) x; simp only [List.length_append, List.length_cons] at ih ⊢; omega
  | case5 x a y b h h2 ih => have := key (f false true) y; simp only [List.length_append, List.length_cons] at ih ⊢; omega
  | case6 x a y b h h2 ih => have := key (f true true) x; simp only [List.length_append, List.length_cons] at ih ⊢; omega
end Go.Proofs.YtcmifbjeabkihabGreatDoor
namespace Go.Proofs.YtcmifbjeabkihabGreatDoor

/-- The number at a place. -/
def at16 (l : List UInt16) (k : Nat) : UInt16 := l.getD k 0
/-- The search by halves between i and j. -/
def bsr (l : List UInt16) (x : UInt16) : Nat → Nat → Nat → Nat
  | 0, i, _ => i
  | f + 1, i, j => if i < j then (if (at16 l ((i + j) / 2)).toNat < x.toNat then bsr l x f ((i + j) / 2 + 1) j else bsr l x f i ((i + j) / 2)) else i
def bs (l : List UInt16) (x : UInt16) : Nat := bsr l x l.length 0 l.length
def fd (l : List UInt16) (x : UInt16) : Bool := decide (bs l x < l.length) && decide ((at16 l (bs l x)).toNat = x.toNat)
theorem bsr_le (l : List UInt16) (x : UInt16) (f i j : Nat) (h : i ≤ j) : i ≤ bsr l x f i j ∧ bsr l x f i j ≤ j := by
  induction f generalizing i j with
  | zero => exact ⟨Nat.le_refl _, h⟩
  | succ f ih =>
    unfold bsr
    split
    · split
      · have := ih ((i + j) / 2 + 1) j (by omega)
        omega
      · have := ih i ((i + j) / 2) (by omega)
        omega
    · omega
theorem bs_le (l : List UInt16) (x : UInt16) : bs l x ≤ l.length := (bsr_le l x _ 0 _ (Nat.zero_le _)).2
theorem at16_eq {l : List UInt16} {k : Nat} {y : UInt16} (h : l[k]? = some y) : at16 l k = y := by simp [at16, List.getD, h]
theorem at16_get {l : List UInt16} {k : Nat} (h : k < l.length) : l[k]? = some (at16 l k) := by rw [List.getElem?_eq_getElem h]; simp [at16, List.getD, h]
theorem ris_at {l : List UInt16} (h : ris l = true) {i j : Nat} (hi : i < j) (hj : j < l.length) : (at16 l i).toNat < (at16 l j).toNat := by
  induction l generalizing i j with
  | nil => simp at hj
  | cons x l ih =>
    cases j with
    | zero => omega
    | succ j =>
      simp at hj
      have e : at16 (x :: l) (j + 1) = at16 l j := by simp [at16]
      rw [e]
      cases i with
      | zero =>
        have e : at16 (x :: l) 0 = x := by simp [at16]
        rw [e]
        exact ris_lt h _ (List.mem_of_getElem? (at16_get hj))
      | succ i =>
        have e : at16 (x :: l) (i + 1) = at16 l i := by simp [at16]
        rw [e]
        exact ih (ris_tail h) (by omega) hj
theorem bsr_split {l : List UInt16} (h : ris l = true) (x : UInt16) (f i j : Nat) (hij : i ≤ j) (hj : j ≤ l.length) (hf : j - i ≤ f)
    (h1 : ∀ k, k < i → (at16 l k).toNat < x.toNat) (h2 : ∀ k, j ≤ k → k < l.length → x.toNat ≤ (at16 l k).toNat) :
    (∀ k, k < bsr l x f i j → (at16 l k).toNat < x.toNat) ∧ ∀ k, bsr l x f i j ≤ k → k < l.length → x.toNat ≤ (at16 l k).toNat := by
  induction f generalizing i j with
  | zero =>
    obtain rfl : i = j := by omega
    exact ⟨h1, h2⟩
  | succ f ih =>
    unfold bsr
    split
    · rename_i hlt
      split
      · rename_i hm
        refine ih _ _ (by omega) hj (by omega) (fun k hk => ?_) h2
        rcases Nat.lt_or_ge k ((i + j) / 2) with h3 | h3
        · have := ris_at h h3 (by omega)
          omega
        · obtain rfl : k = (i + j) / 2 := by omega
          exact hm
      · rename_i hm
        refine ih _ _ (by omega) (by omega) (by omega) h1 (fun k hk hk2 => ?_)
        rcases Nat.lt_or_ge ((i + j) / 2) k with h3 | h3
        · have := ris_at h h3 hk2
          omega
        · obtain rfl : k = (i + j) / 2 := by omega
          omega
    · obtain rfl : i = j := by omega
      exact ⟨h1, h2⟩
theorem bs_take {l : List UInt16} (h : ris l = true) (x : UInt16) : ∀ y ∈ l.take (bs l x), y.toNat < x.toNat := by
  have := (bsr_split h x l.length 0 l.length (Nat.zero_le _) (Nat.le_refl _) (by omega) (fun k hk => by omega) (fun k h1 h2 => by omega)).1
  intro y hy
  obtain ⟨k, hk⟩ := List.mem_iff_getElem?.1 hy
  rw [List.getElem?_take] at hk
  split at hk
  · rw [← at16_eq hk]
    exact this k (by assumption)
  · cases hk
theorem bs_drop {l : List UInt16} (h : ris l = true) (x : UInt16) : ∀ y ∈ l.drop (bs l x), x.toNat ≤ y.toNat := by
  have := (bsr_split h x l.length 0 l.length (Nat.zero_le _) (Nat.le_refl _) (by omega) (fun k hk => by omega) (fun k h1 h2 => by omega)).2
  intro y hy
  obtain ⟨k, hk⟩ := List.mem_iff_getElem?.1 hy
  rw [List.getElem?_drop] at hk
  rw [← at16_eq hk]
  exact this _ (by unfold bs; omega) (List.getElem?_eq_some_iff.1 hk).1
theorem bs_count {l : List UInt16} (h : ris l = true) (x : UInt16) : bs l x = (l.filter fun y => decide (y.toNat < x.toNat)).length := by
  have h1 := bs_take h x
  have h2 := bs_drop h x
  have h3 := bs_le l x
  conv => rhs; rw [← List.take_append_drop (bs l x) l]
  rw [List.filter_append, List.filter_eq_self.2 (by simpa using h1), List.filter_eq_nil_iff.2 (fun y hy => by have := h2 y hy; simp; omega)]
  simp
  omega
theorem fd_mem {l : List UInt16} (h : ris l = true) (x : UInt16) : fd l x = decide (x ∈ l) := by
  have h1 := bs_take h x
  have h2 := bs_drop h x
  rw [Bool.eq_iff_iff]
  simp only [fd, Bool.and_eq_true, decide_eq_true_eq]
  constructor
  · rintro ⟨h3, h4⟩
    have := at16_get h3
    rw [u16_eq h4] at this
    exact List.mem_of_getElem? this
  · intro hx
    rw [← List.take_append_drop (bs l x) l] at hx
    rcases List.mem_append.1 hx with hx | hx
    · have := h1 x hx; omega
    · have hlt : bs l x < l.length := by
        rcases Nat.lt_or_ge (bs l x) l.length with h | h
        · exact h
        · rw [List.drop_eq_nil_of_le h] at hx; cases hx
      refine ⟨hlt, ?_⟩
      have h5 : at16 l (bs l x) ∈ l.drop (bs l x) := by
        refine List.mem_iff_getElem?.2 ⟨0, ?_⟩
        rw [List.getElem?_drop]
        exact at16_get hlt
      have h6 := h2 _ h5
      obtain ⟨k, hk⟩ := List.mem_iff_getElem?.1 hx
      rw [List.getElem?_drop] at hk
      rcases Nat.eq_zero_or_pos k with rfl | hk0
      · rw [Nat.add_zero] at hk; rw [at16_eq hk]
      · have := ris_at h (i := bs l x) (j := bs l x + k) (by omega) (List.getElem?_eq_some_iff.1 hk).1
        rw [at16_eq hk] at this
        omega

/-- The row with x. -/
def wi (l : List UInt16) (x : UInt16) : List UInt16 := if fd l x = true then l else l.take (bs l x) ++ x :: l.drop (bs l x)
theorem wi_mem {l : List UInt16} (h : ris l = true) (x z : UInt16) : z ∈ wi l x ↔ z = x ∨ z ∈ l := by
  unfold wi
  split
  · rename_i hx
    rw [fd_mem h, decide_eq_true_eq] at hx
    exact ⟨.inr, fun hz => by rcases hz with rfl | hz <;> assumption⟩
  · conv => rhs; rw [← List.take_append_drop (bs l x) l]
    simp only [List.mem_append, List.mem_cons]
    exact ⟨fun h => by rcases h with h | h | h <;> simp [h], fun h => by rcases h with h | h | h <;> simp [h]⟩
theorem ris_wi {l : List UInt16} (h : ris l = true) (x : UInt16) : ris (wi l x) = true := by
  unfold wi
  split
  · exact h
  · rename_i hx
    rw [fd_mem h, decide_eq_true_eq] at hx
    have h1 := bs_take h x
    have h2 := bs_drop h x
    obtain ⟨h3, h4, h5⟩ := ris_split (a := l.take (bs l x)) (b := l.drop (bs l x)) (by rw [List.take_append_drop]; exact h)
    refine ris_app h3 (ris_cons (fun y hy => ?_) h4) (fun y hy z hz => ?_)
    · have := h2 y hy
      rcases Nat.lt_or_ge x.toNat y.toNat with h | h
      · exact h
      · have e : y = x := u16_eq (by omega)
        exact absurd (e ▸ List.mem_of_mem_drop hy) hx
    · rcases List.mem_cons.1 hz with rfl | hz
      · exact h1 y hy
      · exact h5 y hy z hz
theorem wi_len (l : List UInt16) (x : UInt16) : (wi l x).length = l.length + (if fd l x = true then 0 else 1) := by
  have := bs_le l x
  unfold wi
  split
  · rfl
  · simp; omega
theorem wi_bs {l : List UInt16} (h : ris l = true) (x : UInt16) : bs (wi l x) x = bs l x := by
  rw [bs_count (ris_wi h x), bs_count h]
  congr 1
  refine ris_ext (ris_filter _ (ris_wi h x)) (ris_filter _ h) fun z => ?_
  simp only [List.mem_filter, wi_mem h, decide_eq_true_eq]
  exact ⟨fun ⟨h1, h2⟩ => ⟨by rcases h1 with rfl | h1; omega; exact h1, h2⟩, fun ⟨h1, h2⟩ => ⟨.inr h1, h2⟩⟩

/-- How many runs begin in a row that follows a number. -/
def rn : Option UInt16 → List UInt16 → Nat
  | _, [] => 0
  | none, x :: l => 1 + rn (some x) l
  | some p, x :: l => (if (x - p).toNat = 1 then 0 else 1) + rn (some x) l
theorem sub_one {x p : UInt16} (h : p.toNat < x.toNat) : (x - p).toNat = x.toNat - p.toNat := by
  have := x.toNat_lt
  rw [UInt16.toNat_sub]
  omega
/-- x has no one below it in the row. -/
def hd (l : List UInt16) (x : UInt16) : Bool := decide (x.toNat = 0) || !fd l (x - 1)
theorem pred_toNat {x : UInt16} (h : x.toNat ≠ 0) : (x - 1).toNat = x.toNat - 1 := by
  have := x.toNat_lt
  rw [UInt16.toNat_sub]
  simp
  omega
theorem hd_iff {l : List UInt16} (h : ris l = true) (x : UInt16) : hd l x = true ↔ ∀ y ∈ l, y.toNat + 1 ≠ x.toNat := by
  unfold hd
  rw [fd_mem h, Bool.or_eq_true, decide_eq_true_eq, Bool.not_eq_true', decide_eq_false_iff_not]
  constructor
  · rintro (h1 | h1) y hy
    · omega
    · intro h2
      exact h1 (by rw [u16_eq (x := x - 1) (y := y) (by rw [pred_toNat] <;> omega)]; exact hy)
  · intro h1
    by_cases h0 : x.toNat = 0
    · exact .inl h0
    · refine .inr fun hx => h1 _ hx ?_
      rw [pred_toNat h0]
      omega
theorem rn_some {p : UInt16} {l1 l2 : List UInt16} (h : ris (l1 ++ p :: l2) = true) : rn (some p) l2 = (l2.filter (hd (l1 ++ p :: l2))).length := by
  induction l2 generalizing l1 p with
  | nil => rfl
  | cons x l2 ih =>
    have e : l1 ++ p :: x :: l2 = (l1 ++ [p]) ++ x :: l2 := by simp
    obtain ⟨h3, h4, h5⟩ := ris_split (e ▸ h)
    have h6 := h5 p (by simp) x (by simp)
    obtain ⟨h7, h8, h9⟩ := ris_split h
    have h10 := ris_lt h4
    rw [rn, List.filter_cons, ih (e ▸ h), ← e, sub_one h6]
    by_cases hp : x.toNat - p.toNat = 1
    · rw [if_pos hp, if_neg, Nat.zero_add]
      rw [hd_iff h]
      intro h1
      exact h1 p (by simp) (by omega)
    · rw [if_neg hp, if_pos]
      · simp; omega
      · rw [hd_iff h]
        intro y hy
        rcases List.mem_append.1 hy with hy | hy
        · have := h9 y hy p (by simp)
          omega
        · rcases List.mem_cons.1 hy with rfl | hy
          · omega
          · rcases List.mem_cons.1 hy with rfl | hy
            · omega
            · have := h10 y hy
              omega
theorem rn_count {l : List UInt16} (h : ris l = true) : rn none l = (l.filter (hd l)).length := by
  cases l with
  | nil => rfl
  | cons x l =>
    have h1 := ris_lt h
    rw [rn, rn_some (l1 := []) (by simpa using h), List.filter_cons, if_pos]
    · simp; omega
    · rw [hd_iff h]
      intro y hy
      rcases List.mem_cons.1 hy with rfl | hy
      · omega
      · have := h1 y hy
        omega
theorem rn_or {a b : List UInt16} (ha : ris a = true) (hb : ris b = true) : rn none (mg fOr a b) ≤ rn none a + rn none b := by
  have hm := ris_mg fOr ha hb
  have hs := fun z => mg_mem fOr rfl ha hb z
  rw [rn_count hm, rn_count ha, rn_count hb, ← List.length_append]
  refine List.Nodup.length_le_of_subset (ris_nodup (ris_filter _ hm)) fun z hz => ?_
  obtain ⟨h1, h2⟩ := List.mem_filter.1 hz
  rw [hd_iff hm] at h2
  rw [hs] at h1
  simp [fOr] at h1
  rw [List.mem_append, List.mem_filter, List.mem_filter, hd_iff ha, hd_iff hb]
  rcases h1 with h1 | h1
  · exact .inl ⟨h1, fun y hy => h2 y ((hs y).2 (by simp [fOr, hy]))⟩
  · exact .inr ⟨h1, fun y hy => h2 y ((hs y).2 (by simp [fOr, hy]))⟩
theorem rn_wi {l : List UInt16} (h : ris l = true) (x : UInt16) : rn none (wi l x) ≤ rn none l + 1 ∧ rn none l ≤ rn none (wi l x) + 1 := by
  have hw := ris_wi h x
  have hs := fun z => wi_mem h x z
  rw [rn_count hw, rn_count h]
  constructor
  · refine Nat.le_trans (List.Nodup.length_le_of_subset (l₂ := x :: l.filter (hd l)) (ris_nodup (ris_filter _ hw)) fun z hz => ?_) (by simp)
    obtain ⟨h1, h2⟩ := List.mem_filter.1 hz
    rw [hd_iff hw] at h2
    rw [hs] at h1
    rcases h1 with rfl | h1
    · simp
    · exact List.mem_cons_of_mem _ (List.mem_filter.2 ⟨h1, (hd_iff h z).2 fun y hy => h2 y ((hs y).2 (.inr hy))⟩)
  · refine Nat.le_trans (List.Nodup.length_le_of_subset (l₂ := (x + 1) :: (wi l x).filter (hd (wi l x))) (ris_nodup (ris_filter _ h)) fun z hz => ?_) (by simp)
    obtain ⟨h1, h2⟩ := List.mem_filter.1 hz
    rw [hd_iff h] at h2
    by_cases hz : z = x + 1
    · simp [hz]
    · refine List.mem_cons_of_mem _ (List.mem_filter.2 ⟨(hs z).2 (.inr h1), (hd_iff hw z).2 fun y hy he => ?_⟩)
      rcases (hs y).1 hy with rfl | hy
      · refine hz (u16_eq ?_)
        have := z.toNat_lt
        rw [UInt16.toNat_add]
        simp
        omega
      · exact h2 y hy he

/-- The numbers below n that are marked, rising. -/
def ls (p : Nat → Bool) : Nat → List UInt16
  | 0 => []
  | n + 1 => ls p n ++ if p n = true then [UInt16.ofNat n] else []
theorem ls_mem (p : Nat → Bool) (n : Nat) (hn : n ≤ 65536) (z : UInt16) : z ∈ ls p n ↔ z.toNat < n ∧ p z.toNat = true := by
  induction n with
  | zero => simp [ls]
  | succ n ih =>
    have hz : z = UInt16.ofNat n ↔ z.toNat = n := by rw [← UInt16.toNat_inj, u16_of n (by omega)]
    rw [ls, List.mem_append, ih (by omega)]
    constructor
    · rintro (⟨h1, h2⟩ | h)
      · exact ⟨by omega, h2⟩
      · split at h
        · rw [List.mem_singleton, hz] at h
          subst h
          exact ⟨by omega, by assumption⟩
        · cases h
    · rintro ⟨h1, h2⟩
      rcases Nat.lt_or_ge z.toNat n with h | h
      · exact .inl ⟨h, h2⟩
      · have e : z.toNat = n := by omega
        rw [e] at h2
        rw [if_pos h2, List.mem_singleton, hz]
        exact .inr e
theorem ris_ls (p : Nat → Bool) (n : Nat) (hn : n ≤ 65536) : ris (ls p n) = true := by
  induction n with
  | zero => rfl
  | succ n ih =>
    rw [ls]
    split
    · refine ris_app (ih (by omega)) rfl fun x hx y hy => ?_
      rw [ls_mem p n (by omega)] at hx
      rw [List.mem_singleton] at hy
      subst hy
      rw [u16_of n (by omega)]
      exact hx.1
    · rw [List.append_nil]
      exact ih (by omega)
theorem ls_len (p : Nat → Bool) (n : Nat) : (ls p n).length ≤ n := by
  induction n with
  | zero => simp [ls]
  | succ n ih => rw [ls]; split <;> simp <;> omega
/-- The marks of a row. -/
def mk (l : List UInt16) (i : Nat) : Bool := l.any fun y => decide (y.toNat = i)
theorem mk_iff (l : List UInt16) (z : UInt16) : mk l z.toNat = true ↔ z ∈ l := by
  simp only [mk, List.any_eq_true, decide_eq_true_eq]
  exact ⟨fun ⟨y, h1, h2⟩ => u16_eq h2 ▸ h1, fun h => ⟨z, h, rfl⟩⟩
theorem mk_dec (l : List UInt16) (z : UInt16) : mk l z.toNat = decide (z ∈ l) := by rw [Bool.eq_iff_iff, mk_iff, decide_eq_true_eq]
theorem ls_mg (f : Bool → Bool → Bool) (hf : f false false = false) {a b : List UInt16} (ha : ris a = true) (hb : ris b = true) :
    mg f a b = ls (fun i => f (mk a i) (mk b i)) 65536 := by
  refine ris_ext (ris_mg f ha hb) (ris_ls _ _ (Nat.le_refl _)) fun z => ?_
  rw [mg_mem f hf ha hb, ls_mem _ _ (Nat.le_refl _), mk_dec, mk_dec]
  exact ⟨fun h => ⟨z.toNat_lt, h⟩, fun h => h.2⟩
theorem ls_wi {a : List UInt16} (ha : ris a = true) (x : UInt16) : wi a x = ls (fun i => decide (i = x.toNat) || mk a i) 65536 := by
  refine ris_ext (ris_wi ha x) (ris_ls _ _ (Nat.le_refl _)) fun z => ?_
  rw [wi_mem ha, ls_mem _ _ (Nat.le_refl _), Bool.or_eq_true, decide_eq_true_eq, mk_iff, UInt16.toNat_inj]
  exact ⟨fun h => ⟨z.toNat_lt, h⟩, fun h => h.2⟩
theorem bs_ls {a : List UInt16} (ha : ris a = true) (x : UInt16) : bs a x = (ls (mk a) x.toNat).length := by
  rw [bs_count ha]
  refine congrArg List.length ?_
  have := x.toNat_lt
  refine ris_ext (ris_filter _ ha) (ris_ls _ _ (by omega)) fun z => ?_
  rw [List.mem_filter, ls_mem _ _ (by omega), mk_iff, decide_eq_true_eq]
  exact ⟨fun h => ⟨h.2, h.1⟩, fun h => ⟨h.2, h.1⟩⟩
/-- Where runs begin among marks. -/
def hm (p : Nat → Bool) (i : Nat) : Bool := p i && (decide (i = 0) || !p (i - 1))
theorem rn_ls {a : List UInt16} (ha : ris a = true) : rn none a = (ls (hm (mk a)) 65536).length := by
  rw [rn_count ha]
  refine congrArg List.length ?_
  refine ris_ext (ris_filter _ ha) (ris_ls _ _ (Nat.le_refl _)) fun z => ?_
  rw [List.mem_filter, ls_mem _ _ (Nat.le_refl _), hm, Bool.and_eq_true, mk_iff]
  have key : hd a z = (decide (z.toNat = 0) || !mk a (z.toNat - 1)) := by
    unfold hd
    by_cases h0 : z.toNat = 0
    · simp [h0]
    · rw [fd_mem ha, ← pred_toNat h0, mk_dec]
  rw [key]
  exact ⟨fun h => ⟨z.toNat_lt, h⟩, fun h => h.2⟩
end Go.Proofs.YtcmifbjeabkihabGreatDoor
