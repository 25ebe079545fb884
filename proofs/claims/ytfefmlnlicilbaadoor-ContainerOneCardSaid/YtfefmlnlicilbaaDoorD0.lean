/- Plain mathematics: rising rows of numbers from 0 to 65535. No Go in sight. -/
import Derived.WalkKit
namespace Go.Proofs.YtfefmlnlicilbaaDoor

/-- The row rises. -/
def ris : List UInt16 → Bool
  | x :: y :: l => decide (x.toNat < y.toNat) && ris (y :: l)
  | _ => true
theorem u16_eq {x y : UInt16} (h : x.toNat = y.toNat) : x = y := UInt16.toNat_inj.1 h
theorem u16_lt (x : UInt16) : x.toNat < 65536 := x.toNat_lt
theorem u16_of (n : Nat) (h : n < 65536) : (UInt16.ofNat n).toNat = n := by simp; omega
theorem ris_tail {x : UInt16} {l : List UInt16} (h : ris (x :: l) = true) : ris l = true := by
  cases l with
  | nil => rfl
  | cons y l => simp [ris] at h; exact h.2
theorem ris_lt {x : UInt16} {l : List UInt16} (h : ris (x :: l) = true) : ∀ y ∈ l, x.toNat < y.toNat := by
  induction l generalizing x with
  | nil => intro y hy; cases hy
  | cons z l ih =>
    simp [ris] at h
    intro y hy
    rcases List.mem_cons.1 hy with rfl | hy
    · exact h.1
    · have := ih h.2 y hy
      omega
theorem ris_cons {x : UInt16} {l : List UInt16} (h1 : ∀ y ∈ l, x.toNat < y.toNat) (h2 : ris l = true) : ris (x :: l) = true := by
  cases l with
  | nil => rfl
  | cons z l =>
    simp [ris]
    exact ⟨h1 z (by simp), h2⟩
theorem ris_iff {x : UInt16} {l : List UInt16} : ris (x :: l) = true ↔ (∀ y ∈ l, x.toNat < y.toNat) ∧ ris l = true :=
  ⟨fun h => ⟨ris_lt h, ris_tail h⟩, fun h => ris_cons h.1 h.2⟩
theorem ris_ext {a b : List UInt16} (ha : ris a = true) (hb : ris b = true) (h : ∀ z, z ∈ a ↔ z ∈ b) : a = b := by
  induction a generalizing b with
  | nil =>
    cases b with
    | nil => rfl
    | cons y b => exact absurd ((h y).2 (by simp)) (by simp)
  | cons x a ih =>
    cases b with
    | nil => exact absurd ((h x).1 (by simp)) (by simp)
    | cons y b =>
      have h1 := ris_lt ha
      have h2 := ris_lt hb
      have e : x = y := by
        apply u16_eq
        have hx := (h x).1 (by simp)
        have hy := (h y).2 (by simp)
        rcases List.mem_cons.1 hx with rfl | hx
        · rfl
        rcases List.mem_cons.1 hy with rfl | hy
        · rfl
        have := h1 y hy
        have := h2 x hx
        omega
      subst e
      rw [ih (ris_tail ha) (ris_tail hb) fun z => ?_]
      constructor
      · intro hz
        rcases List.mem_cons.1 ((h z).1 (by simp [hz])) with rfl | h3
        · have := h1 z hz; omega
        · exact h3
      · intro hz
        rcases List.mem_cons.1 ((h z).2 (by simp [hz])) with rfl | h3
        · have := h2 z hz; omega
        · exact h3
theorem ris_filter (p : UInt16 → Bool) {l : List UInt16} (h : ris l = true) : ris (l.filter p) = true := by
  induction l with
  | nil => rfl
  | cons x l ih =>
    rw [List.filter_cons]
    split
    · exact ris_cons (fun y hy => ris_lt h y (List.mem_filter.1 hy).1) (ih (ris_tail h))
    · exact ih (ris_tail h)
theorem ris_nodup {l : List UInt16} (h : ris l = true) : l.Nodup := by
  induction l with
  | nil => exact List.nodup_nil
  | cons x l ih =>
    refine List.nodup_cons.2 ⟨fun hx => ?_, ih (ris_tail h)⟩
    have := ris_lt h x hx
    omega
theorem ris_app {a b : List UInt16} (ha : ris a = true) (hb : ris b = true) (h : ∀ x ∈ a, ∀ y ∈ b, x.toNat < y.toNat) : ris (a ++ b) = true := by
  induction a with
  | nil => exact hb
  | cons x a ih =>
    rw [List.cons_append]
    refine ris_cons (fun y hy => ?_) (ih (ris_tail ha) fun z hz => h z (by simp [hz]))
    rcases List.mem_append.1 hy with hy | hy
    · exact ris_lt ha y hy
    · exact h x (by simp) y hy
theorem ris_split {a b : List UInt16} (h : ris (a ++ b) = true) : ris a = true ∧ ris b = true ∧ ∀ x ∈ a, ∀ y ∈ b, x.toNat < y.toNat := by
  induction a with
  | nil => exact ⟨rfl, h, fun x hx => by cases hx⟩
  | cons x a ih =>
    rw [List.cons_append] at h
    have h1 := ris_lt h
    obtain ⟨h2, h3, h4⟩ := ih (ris_tail h)
    refine ⟨ris_cons (fun y hy => h1 y (by simp [hy])) h2, h3, fun z hz y hy => ?_⟩
    rcases List.mem_cons.1 hz with rfl | hz
    · exact h1 y (by simp [hy])
    · exact h4 z hz y hy

/-- Two rows side by side: the numbers of which f says yes. -/
def mg (f : Bool → Bool → Bool) : List UInt16 → List UInt16 → List UInt16
  | [], [] => []
  | x :: a, [] => (if f true false then [x] else []) ++ mg f a []
  | [], y :: b => (if f false true then [y] else []) ++ mg f [] b
  | x :: a, y :: b =>
    if x.toNat < y.toNat then (if f true false then [x] else []) ++ mg f a (y :: b)
    else if y.toNat < x.toNat then (if f false true then [y] else []) ++ mg f (x :: a) b
    else (if f true true then [x] else []) ++ mg f a b
termination_by a b => a.length + b.length
theorem mem_ite1 (c : Bool) (x z : UInt16) : z ∈ (if c = true then [x] else []) ↔ z = x ∧ c = true := by cases c <;> simp
theorem mg_sub (f : Bool → Bool → Bool) (a b : List UInt16) : ∀ z ∈ mg f a b, z ∈ a ∨ z ∈ b := by
  fun_induction mg f a b with
  | case1 => intro z hz; cases hz
  | case2 x a ih =>
    intro z hz
    rw [List.mem_append, mem_ite1] at hz
    rcases hz with ⟨rfl, _⟩ | hz
    · simp
    · have := ih z hz; simp_all
  | case3 y b ih =>
    intro z hz
    rw [List.mem_append, mem_ite1] at hz
    rcases hz with ⟨rfl, _⟩ | hz
    · simp
    · have := ih z hz; simp_all
  | case4 x a y b h ih =>
    intro z hz
    rw [List.mem_append, mem_ite1] at hz
    rcases hz with ⟨rfl, _⟩ | hz
    · simp
    · rcases ih z hz with h | h
      · simp [h]
      · exact .inr h
  | case5 x a y b h1 h2 ih =>
    intro z hz
    rw [List.mem_append, mem_ite1] at hz
    rcases hz with ⟨rfl, _⟩ | hz
    · simp
    · rcases ih z hz with h | h
      · exact .inl h
      · simp [h]
  | case6 x a y b h1 h2 ih =>
    intro z hz
    rw [List.mem_append, mem_ite1] at hz
    rcases hz with ⟨rfl, _⟩ | hz
    · simp
    · rcases ih z hz with h | h <;> simp [h]
theorem ris_mg (f : Bool → Bool → Bool) {a b : List UInt16} (ha : ris a = true) (hb : ris b = true) : ris (mg f a b) = true := by
  have key : ∀ (c : Bool) (x : UInt16) (l : List UInt16), (∀ y ∈ l, x.toNat < y.toNat) → ris l = true → ris ((if c = true then [x] else []) ++ l) = true := by
    intro c x l h1 h2
    cases c
    · exact h2
    · exact ris_cons h1 h2
  fun_induction mg f a b with
  | case1 => rfl
  | case2 x a ih => exact key _ _ _ (fun y hy => by rcases mg_sub f _ _ y hy with h | h; exact ris_lt ha y h; cases h) (ih (ris_tail ha) rfl)
  | case3 y b ih => exact key _ _ _ (fun z hz => by rcases mg_sub f _ _ z hz with h | h; cases h; exact ris_lt hb z h) (ih rfl (ris_tail hb))
  | case4 x a y b h ih =>
    refine key _ _ _ (fun z hz => ?_) (ih (ris_tail ha) hb)
    rcases mg_sub f _ _ z hz with h | h
    · exact ris_lt ha z h
    · rcases List.mem_cons.1 h with rfl | h
      · omega
      · have := ris_lt hb z h; omega
  | case5 x a y b h1 h2 ih =>
    refine key _ _ _ (fun z hz => ?_) (ih ha (ris_tail hb))
    rcases mg_sub f _ _ z hz with h | h
    · rcases List.mem_cons.1 h with rfl | h
      · omega
      · have := ris_lt ha z h; omega
    · exact ris_lt hb z h
  | case6 x a y b h1 h2 ih =>
    refine key _ _ _ (fun z hz => ?_) (ih (ris_tail ha) (ris_tail hb))
    rcases mg_sub f _ _ z hz with h | h
    · exact ris_lt ha z h
    · have := ris_lt hb z h; omega
theorem mg_mem (f : Bool → Bool → Bool) (hf : f false false = false) {a b : List UInt16} (ha : ris a = true) (hb : ris b = true) (z : UInt16) :
    z ∈ mg f a b ↔ f (decide (z ∈ a)) (decide (z ∈ b)) = true := by
  fun_induction mg f a b with
  | case1 => simp [hf]
  | case2 x a ih =>
    have h1 := ris_lt ha
    rw [List.mem_append, mem_ite1, ih (ris_tail ha) rfl]
    by_cases h : z = x
    · subst h
      have : z ∉ a := fun h => by have := h1 z h; omega
      simp [this, hf]
    · simp [h]
  | case3 y b ih =>
    have h1 := ris_lt hb
    rw [List.mem_append, mem_ite1, ih rfl (ris_tail hb)]
    by_cases h : z = y
    · subst h
      have : z ∉ b := fun h => by have := h1 z h; omega
      simp [this, hf]
    · simp [h]
  | case4 x a y b hxy ih =>
    have h1 := ris_lt ha
    have h2 := ris_lt hb
    rw [List.mem_append, mem_ite1, ih (ris_tail ha) hb]
    by_cases h : z = x
    · subst h
      have h3 : z ∉ a := fun h => by have := h1 z h; omega
      have h4 : z ∉ b := fun h => by have := h2 z h; omega
      have h5 : z ≠ y := by rintro rfl; omega
      simp [h3, h4, h5, hf]
    · simp [h]
  | case5 x a y b h0 hyx ih =>
    have h1 := ris_lt ha
    have h2 := ris_lt hb
    rw [List.mem_append, mem_ite1, ih ha (ris_tail hb)]
    by_cases h : z = y
    · subst h
      have h3 : z ∉ a := fun h => by have := h1 z h; omega
      have h4 : z ∉ b := fun h => by have := h2 z h; omega
      have h5 : z ≠ x := by rintro rfl; omega
      simp [h3, h4, h5, hf]
    · simp [h]
  | case6 x a y b h0 h0' ih =>
    have h1 := ris_lt ha
    have h2 := ris_lt hb
    obtain rfl : x = y := u16_eq (by omega)
    rw [List.mem_append, mem_ite1, ih (ris_tail ha) (ris_tail hb)]
    by_cases h : z = x
    · subst h
      have h3 : z ∉ a := fun h => by have := h1 z h; omega
      have h4 : z ∉ b := fun h => by have := h2 z h; omega
      simp [h3, h4, hf]
    · simp [h]

def fAnd (x y : Bool) : Bool := x && y
def fOr (x y : Bool) : Bool := x || y
def fNot (x y : Bool) : Bool := x && !y
def fXor (x y : Bool) : Bool := x != y
theorem mg_len (a b : List UInt16) : (mg fAnd a b).length + (mg fOr a b).length = a.length + b.length := by
  fun_induction mg fAnd a b with
  | case1 => simp [mg]
  | case2 x a ih => rw [mg]; simp [fAnd, fOr] at ih ⊢; omega
  | case3 y b ih => rw [mg]; simp [fAnd, fOr] at ih ⊢; omega
  | case4 x a y b h ih => rw [mg, if_pos h]; simp [fAnd, fOr] at ih ⊢; omega
  | case5 x a y b h h2 ih => rw [mg, if_neg h, if_pos h2]; simp [fAnd, fOr] at ih ⊢; omega
  | case6 x a y b h h2 ih => rw [mg, if_neg h, if_neg h2]; simp [fAnd, fOr] at ih ⊢; omega
theorem mg_le (f : Bool → Bool → Bool) (a b : List UInt16) : (mg f a b).length ≤ a.length + b.length := by
  have key : ∀ (c : Bool) (x : UInt16), (if c = true then [x] else []).length ≤ 1 := by intro c x; cases c <;> simp
  fun_induction mg f a b with
  | case1 => simp
  | case2 x a ih => have := key (f true false) x; simp only [List.length_append, List.length_cons, List.length_nil] at ih ⊢; omega
  | case3 y b ih => have := key (f false true) y; simp only [List.length_append, List.length_cons, List.length_nil] at ih ⊢; omega
  | case4 x a y b h ih => have := key (f true false) x; simp only [List.length_append, List.length_cons] at ih ⊢; omega
  | case5 x a y b h h2 ih => have := key (f false true) y; simp only [List.length_append, List.length_cons] at ih ⊢; omega
  | case6 x a y b h h2 ih => have := key (f true true) x; simp only [List.length_append, List.length_cons] at ih ⊢; omega
end Go.Proofs.YtfefmlnlicilbaaDoor
