/- Plain numbers and lists: the letters of a row of bytes, by groups of k bits of the one great number that the bytes are; and that letters stand in the order of the bytes. -/
import GoSem.Op.String
namespace Go.Proofs.Ytaaiikjjfleooaa

/-- The one great number that a row of bytes is. -/
def val (l : List UInt8) : Nat := l.foldl (fun a b => 256 * a + b.toNat) 0
theorem val_snoc (l : List UInt8) (b : UInt8) : val (l ++ [b]) = 256 * val l + b.toNat := by simp [val]

/-- The number of the letter at place j. -/
def num (k : Nat) (l : List UInt8) (j : Nat) : Nat := val l / 2 ^ (8 * l.length - k * (j + 1)) % 2 ^ k
/-- The numbers of the first m letters. -/
def nums (k : Nat) (l : List UInt8) (m : Nat) : List Nat := (List.range m).map (num k l)

theorem num_snoc (k : Nat) (l : List UInt8) (b : UInt8) (j : Nat) (h : k * (j + 1) ≤ 8 * l.length) : num k (l ++ [b]) j = num k l j := by
  unfold num
  rw [val_snoc, List.length_append, List.length_singleton, show 8 * (l.length + 1) - k * (j + 1) = 8 + (8 * l.length - k * (j + 1)) from by omega, Nat.pow_add, ← Nat.div_div_eq_div_mul]
  rw [show (256 * val l + b.toNat) / 2 ^ 8 = val l from by have := b.toNat_lt; omega]

theorem nums_snoc (k : Nat) (l : List UInt8) (b : UInt8) (m : Nat) (h : k * m ≤ 8 * l.length) : nums k (l ++ [b]) m = nums k l m := by
  unfold nums
  refine List.map_congr_left fun j hj => num_snoc k l b j ?_
  have := List.mem_range.1 hj
  exact Nat.le_trans (Nat.mul_le_mul_left k this) h

theorem nums_succ (k : Nat) (l : List UInt8) (m : Nat) : nums k l (m + 1) = nums k l m ++ [num k l m] := by simp [nums, List.range_succ]
theorem nums_length (k : Nat) (l : List UInt8) (m : Nat) : (nums k l m).length = m := by simp [nums]
theorem num_lt (k : Nat) (l : List UInt8) (j : Nat) : num k l j < 2 ^ k := Nat.mod_lt _ (Nat.two_pow_pos k)
theorem nums_lt (k : Nat) (l : List UInt8) (m : Nat) : ∀ x ∈ nums k l m, x < 2 ^ k := by
  intro x hx
  obtain ⟨j, _, rfl⟩ := List.mem_map.1 hx
  exact num_lt k l j

/-- All letters' numbers. -/
def allNums (k : Nat) (l : List UInt8) : List Nat :=
  nums k l (8 * l.length / k) ++ if 8 * l.length % k = 0 then [] else [val l * 2 ^ (k - 8 * l.length % k) % 2 ^ k]

/-- A row of digits as a number. -/
def dval (B : Nat) : List Nat → Nat
  | [] => 0
  | d :: t => d * B ^ t.length + dval B t

theorem dval_snoc (B : Nat) (X : List Nat) (d : Nat) : dval B (X ++ [d]) = B * dval B X + d := by
  induction X with
  | nil => simp [dval]
  | cons a s ih => simp only [List.cons_append, dval, ih, List.length_append, List.length_singleton, Nat.pow_succ, Nat.mul_add]; rw [Nat.mul_comm B (a * B ^ s.length), Nat.mul_assoc]; omega

theorem dval_lt (B : Nat) (X : List Nat) (h : ∀ x ∈ X, x < B) : dval B X < B ^ X.length := by
  induction X with
  | nil => simp [dval]
  | cons a s ih =>
    have h1 := ih fun x hx => h x (List.mem_cons_of_mem _ hx)
    have h2 : (a + 1) * B ^ s.length ≤ B * B ^ s.length := Nat.mul_le_mul_right _ (h a List.mem_cons_self)
    simp only [dval, List.length_cons, Nat.pow_succ]
    rw [Nat.add_mul, Nat.one_mul] at h2
    rw [Nat.mul_comm (B ^ s.length) B]
    omega

/-- Does a row of digits stand ahead of another one, or are they one? -/
def dle : List Nat → List Nat → Bool
  | [], _ => true
  | _ :: _, [] => false
  | a :: s, b :: t => decide (a < b) || (decide (a = b) && dle s t)

theorem dle_iff (B : Nat) : ∀ (X Y : List Nat), (∀ x ∈ X, x < B) → (∀ y ∈ Y, y < B) →
    (dle X Y = true ↔ if X.length ≤ Y.length then dval B X * B ^ (Y.length - X.length) ≤ dval B Y else dval B X < dval B Y * B ^ (X.length - Y.length)) := by
  intro X
  induction X with
  | nil => intro Y _ _; simp [dle, dval]
  | cons a s ih =>
    intro Y hX hY
    cases Y with
    | nil => simp [dle, dval]
    | cons b t =>
      have hs : ∀ x ∈ s, x < B := fun x hx => hX x (List.mem_cons_of_mem _ hx)
      have ht : ∀ x ∈ t, x < B := fun x hx => hY x (List.mem_cons_of_mem _ hx)
      have i := ih t hs ht
      have l1 := dval_lt B s hs
      have l2 := dval_lt B t ht
      simp only [dle, dval, List.length_cons, Nat.add_le_add_iff_right, Nat.add_sub_add_right, Bool.or_eq_true, Bool.and_eq_true, decide_eq_true_eq]
      rw [i]
      by_cases hl : s.length ≤ t.length
      · rw [if_pos hl, if_pos hl]
        have e : B ^ s.length * B ^ (t.length - s.length) = B ^ t.length := by rw [← Nat.pow_add]; congr 1; omega
        have l3 : (dval B s + 1) * B ^ (t.length - s.length) ≤ B ^ t.length := by rw [← e]; exact Nat.mul_le_mul_right _ l1
        have bp : 0 < B ^ (t.length - s.length) := Nat.pow_pos (by have := hX a List.mem_cons_self; omega)
        rw [Nat.add_mul, Nat.mul_assoc, e]
        rw [Nat.add_mul, Nat.one_mul] at l3
        generalize B ^ t.length = P at *
        generalize dval B s * B ^ (t.length - s.length) = U at *
        generalize B ^ (t.length - s.length) = D at *
        rcases Nat.lt_trichotomy a b with h | h | h
        · have : (a + 1) * P ≤ b * P := Nat.mul_le_mul_right _ h
          rw [Nat.add_mul, Nat.one_mul] at this
          constructor
          · intro _; omega
          · intro _; exact .inl h
        · subst h
          constructor
          · rintro (h | ⟨_, h⟩) <;> omega
          · intro h; exact .inr ⟨rfl, by omega⟩
        · have : (b + 1) * P ≤ a * P := Nat.mul_le_mul_right _ h
          rw [Nat.add_mul, Nat.one_mul] at this
          constructor
          · rintro (h' | ⟨h', _⟩) <;> omega
          · intro h'; omega
      · rw [if_neg hl, if_neg hl]
        have e : B ^ t.length * B ^ (s.length - t.length) = B ^ s.length := by rw [← Nat.pow_add]; congr 1; omega
        have l3 : (dval B t + 1) * B ^ (s.length - t.length) ≤ B ^ s.length := by rw [← e]; exact Nat.mul_le_mul_right _ l2
        rw [Nat.add_mul, Nat.mul_assoc, e]
        have bp : 0 < B ^ (s.length - t.length) := Nat.pow_pos (by have := hX a List.mem_cons_self; omega)
        rw [Nat.add_mul, Nat.one_mul] at l3
        generalize B ^ s.length = P at *
        generalize dval B t * B ^ (s.length - t.length) = U at *
        generalize B ^ (s.length - t.length) = D at *
        rcases Nat.lt_trichotomy a b with h | h | h
        · have : (a + 1) * P ≤ b * P := Nat.mul_le_mul_right _ h
          rw [Nat.add_mul, Nat.one_mul] at this
          constructor
          · intro _; omega
          · intro _; exact .inl h
        · subst h
          constructor
          · rintro (h | ⟨_, h⟩) <;> omega
          · intro h; exact .inr ⟨rfl, by omega⟩
        · have : (b + 1) * P ≤ a * P := Nat.mul_le_mul_right _ h
          rw [Nat.add_mul, Nat.one_mul] at this
          constructor
          · rintro (h' | ⟨h', _⟩) <;> omega
          · intro h'; omega

theorem snoc_ind {P : List UInt8 → Prop} (h0 : P []) (hs : ∀ l b, P l → P (l ++ [b])) (l : List UInt8) : P l := by
  rw [← l.reverse_reverse]
  induction l.reverse with
  | nil => exact h0
  | cons a t ih => rw [List.reverse_cons]; exact hs _ _ ih

theorem val_lt (l : List UInt8) : val l < 2 ^ (8 * l.length) := by
  refine snoc_ind (P := fun l => val l < 2 ^ (8 * l.length)) (by simp [val]) (fun l b ih => ?_) l
  rw [val_snoc, List.length_append, List.length_singleton, show 8 * (l.length + 1) = 8 * l.length + 8 from by omega, Nat.pow_add]
  have := b.toNat_lt
  generalize 2 ^ (8 * l.length) = P at *
  omega

theorem dval_nums (k : Nat) (l : List UInt8) (m : Nat) (h : k * m ≤ 8 * l.length) : dval (2 ^ k) (nums k l m) = val l / 2 ^ (8 * l.length - k * m) := by
  induction m with
  | zero => simp [nums, dval, Nat.div_eq_of_lt (val_lt l)]
  | succ m ih =>
    have h1 : k * m ≤ 8 * l.length := Nat.le_trans (Nat.mul_le_mul_left k (Nat.le_succ m)) h
    rw [nums_succ, dval_snoc, ih h1, num]
    have e : 8 * l.length - k * m = (8 * l.length - k * (m + 1)) + k := by rw [Nat.mul_add] at *; omega
    rw [e, Nat.pow_add, ← Nat.div_div_eq_div_mul]
    exact Nat.div_add_mod _ _

theorem all_facts (k : Nat) (hk : 0 < k) (l : List UInt8) :
    dval (2 ^ k) (allNums k l) = val l * 2 ^ (k * (allNums k l).length - 8 * l.length) ∧ 8 * l.length ≤ k * (allNums k l).length ∧ k * (allNums k l).length < 8 * l.length + k := by
  have hd := Nat.div_add_mod (8 * l.length) k
  have hr := Nat.mod_lt (8 * l.length) hk
  unfold allNums
  by_cases h : 8 * l.length % k = 0
  · rw [if_pos h, List.append_nil, nums_length, dval_nums k l _ (by omega)]
    have e : k * (8 * l.length / k) = 8 * l.length := by omega
    rw [e]
    simp [hk]
  · rw [if_neg h, List.length_append, List.length_singleton, nums_length, dval_snoc, dval_nums k l _ (by omega), Nat.mul_add, Nat.mul_one]
    generalize 8 * l.length % k = r at *
    generalize 8 * l.length / k = q at *
    generalize k * q = kq at *
    have e1 : 8 * l.length - kq = r := by omega
    have e2 : kq + k - 8 * l.length = k - r := by omega
    rw [e1, e2]
    refine ⟨?_, by omega, by omega⟩
    have e3 : (2 : Nat) ^ k = 2 ^ r * 2 ^ (k - r) := by rw [← Nat.pow_add]; congr 1; omega
    have e4 : val l / 2 ^ r = val l * 2 ^ (k - r) / 2 ^ k := by rw [e3, Nat.mul_div_mul_right _ _ (Nat.two_pow_pos _)]
    rw [e4]
    exact Nat.div_add_mod _ _

theorem dval_bytes (l : List UInt8) : dval 256 (l.map UInt8.toNat) = val l := by
  refine snoc_ind (P := fun l => dval 256 (l.map UInt8.toNat) = val l) (by simp [dval, val]) (fun l b ih => ?_) l
  rw [List.map_append, List.map_singleton, dval_snoc, ih, val_snoc]

theorem dle_all (k : Nat) (hk : 0 < k) (hk' : k ≤ 8) (b c : List UInt8) : dle (allNums k b) (allNums k c) = dle (b.map UInt8.toNat) (c.map UInt8.toNat) := by
  have lts : ∀ l : List UInt8, ∀ x ∈ allNums k l, x < 2 ^ k := by
    intro l x hx
    unfold allNums at hx
    rcases List.mem_append.1 hx with hx | hx
    · exact nums_lt k l _ x hx
    · split at hx
      · cases hx
      · rw [List.mem_singleton] at hx; rw [hx]; exact Nat.mod_lt _ (Nat.two_pow_pos k)
  have ltb : ∀ l : List UInt8, ∀ x ∈ l.map UInt8.toNat, x < 256 := by
    intro l x hx
    obtain ⟨y, _, rfl⟩ := List.mem_map.1 hx
    exact y.toNat_lt
  rw [Bool.eq_iff_iff, dle_iff (2 ^ k) _ _ (lts b) (lts c), dle_iff 256 _ _ (ltb b) (ltb c), dval_bytes, dval_bytes, List.length_map, List.length_map]
  obtain ⟨v1, l1, u1⟩ := all_facts k hk b
  obtain ⟨v2, l2, u2⟩ := all_facts k hk c
  rw [v1, v2]
  generalize (allNums k b).length = M1 at *
  generalize (allNums k c).length = M2 at *
  generalize b.length = n1 at *
  generalize c.length = n2 at *
  generalize val b = x at *
  generalize val c = y at *
  have e256 : ∀ n, (256 : Nat) ^ n = 2 ^ (8 * n) := fun n => by rw [Nat.pow_mul]
  rw [e256, e256, ← Nat.pow_mul, ← Nat.pow_mul]
  by_cases h : n1 ≤ n2
  · have hM : M1 ≤ M2 := by
      have : k * M1 < k * (M2 + 1) := by rw [Nat.mul_add, Nat.mul_one]; omega
      exact Nat.lt_succ_iff.1 (Nat.lt_of_mul_lt_mul_left this)
    rw [if_pos h, if_pos hM]
    have hm : k * M1 + k * (M2 - M1) = k * M2 := by rw [← Nat.mul_add]; congr 1; omega
    rw [Nat.mul_assoc, ← Nat.pow_add, show k * M1 - 8 * n1 + k * (M2 - M1) = 8 * (n2 - n1) + (k * M2 - 8 * n2) from by omega, Nat.pow_add, ← Nat.mul_assoc]
    exact Nat.mul_le_mul_right_iff (Nat.two_pow_pos _)
  · have hM : ¬ M1 ≤ M2 := by
      intro hM
      have : k * M1 ≤ k * M2 := Nat.mul_le_mul_left k hM
      omega
    rw [if_neg h, if_neg hM]
    have hm : k * M2 + k * (M1 - M2) = k * M1 := by rw [← Nat.mul_add]; congr 1; omega
    rw [Nat.mul_assoc, ← Nat.pow_add, show k * M2 - 8 * n2 + k * (M1 - M2) = 8 * (n1 - n2) + (k * M1 - 8 * n1) from by omega, Nat.pow_add, ← Nat.mul_assoc]
    exact Nat.mul_lt_mul_right (Nat.two_pow_pos _)

theorem dle_map (f : Nat → Nat) (B : Nat) (hf : ∀ i j, i < B → j < B → i < j → f i < f j) : ∀ X Y : List Nat, (∀ x ∈ X, x < B) → (∀ y ∈ Y, y < B) → dle (X.map f) (Y.map f) = dle X Y := by
  intro X
  induction X with
  | nil => intro Y _ _; simp [dle]
  | cons a s ih =>
    intro Y hX hY
    cases Y with
    | nil => simp [dle]
    | cons b t =>
      have ha := hX a List.mem_cons_self
      have hb := hY b List.mem_cons_self
      simp only [List.map_cons, dle]
      rw [ih t (fun x hx => hX x (List.mem_cons_of_mem _ hx)) (fun x hx => hY x (List.mem_cons_of_mem _ hx))]
      rcases Nat.lt_trichotomy a b with h | h | h
      · have := hf a b ha hb h
        simp [h, this]
      · subst h; simp
      · have := hf b a hb ha h
        have h1 : ¬ a < b := by omega
        have h2 : ¬ a = b := by omega
        have h3 : ¬ f a < f b := by omega
        have h4 : ¬ f a = f b := by omega
        simp [h1, h2, h3, h4]

theorem less_or_same (x y : List UInt8) : (Go.Op.bytesLess x y || x == y) = dle (x.map UInt8.toNat) (y.map UInt8.toNat) := by
  induction x generalizing y with
  | nil => cases y <;> simp [Go.Op.bytesLess, dle]
  | cons a s ih =>
    cases y with
    | nil => simp [Go.Op.bytesLess, dle]
    | cons b t =>
      simp only [List.map_cons, dle, ← ih t, Go.Op.bytesLess]
      rw [Bool.eq_iff_iff]
      simp only [Bool.or_eq_true, Bool.and_eq_true, decide_eq_true_eq, beq_iff_eq, List.cons.injEq, UInt8.lt_iff_toNat_lt]
      have e : a = b ↔ a.toNat = b.toNat := ⟨fun h => by rw [h], fun h => UInt8.toNat_inj.1 h⟩
      rw [e]
      constructor
      · rintro ((h | ⟨h1, h2⟩) | ⟨h1, h2⟩)
        · exact .inl h
        · exact .inr ⟨h1, .inl h2⟩
        · exact .inr ⟨h1, .inr h2⟩
      · rintro (h | ⟨h1, h2 | h2⟩)
        · exact .inl (.inl h)
        · exact .inl (.inr ⟨h1, h2⟩)
        · exact .inr ⟨h1, h2⟩
end Go.Proofs.Ytaaiikjjfleooaa
