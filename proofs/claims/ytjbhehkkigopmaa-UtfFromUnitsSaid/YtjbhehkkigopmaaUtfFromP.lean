/- Plain: the characters that a row of units reads as, and their text. -/
import Derived.Test.YtjbhehkkigopmaaUtfRefCmp
namespace Go.Proofs.Ytjbhehkkigopmaa
open Go.Lib

/-- The character at the head of a row of units, and how many units it takes. -/
def stepU : List Nat → Option (Nat × Nat)
  | [] => none
  | x :: t => if x < 55296 ∨ 57343 < x then some (x, 1) else if x < 56320 then (match t with | [] => none | y :: _ => if 56320 ≤ y ∧ y ≤ 57343 then some (65536 + (x - 55296) * 1024 + (y - 56320), 2) else none) else none
/-- The characters, from the head on, as far as units are whole; and how many units they take. -/
def rdF : Nat → List Nat → List Nat × Nat
  | 0, _ => ([], 0)
  | f + 1, l => match stepU l with
    | some (c, m) => (c :: (rdF f (l.drop m)).1, m + (rdF f (l.drop m)).2)
    | none => ([], 0)
def rdU (l : List Nat) : List Nat × Nat := rdF l.length l
/-- The text of characters. -/
def textOf (cs : List Nat) : List UInt8 := cs.flatMap fun (c : Nat) => encodeRune (c : Int)

theorem stepU_c (x : Nat) (t : List Nat) : stepU (x :: t) = if x < 55296 ∨ 57343 < x then some (x, 1) else if x < 56320 then (match t with | [] => none | y :: _ => if 56320 ≤ y ∧ y ≤ 57343 then some (65536 + (x - 55296) * 1024 + (y - 56320), 2) else none) else none := rfl
theorem stepU_c1 (x : Nat) : stepU [x] = if x < 55296 ∨ 57343 < x then some (x, 1) else if x < 56320 then none else none := rfl
theorem stepU_c2 (x y : Nat) (t : List Nat) : stepU (x :: y :: t) = if x < 55296 ∨ 57343 < x then some (x, 1) else if x < 56320 then (if 56320 ≤ y ∧ y ≤ 57343 then some (65536 + (x - 55296) * 1024 + (y - 56320), 2) else none) else none := rfl
theorem stepU_one {x : Nat} (t : List Nat) (h : x < 55296 ∨ 57343 < x) : stepU (x :: t) = some (x, 1) := by rw [stepU_c, if_pos h]
theorem stepU_two {x y : Nat} (t : List Nat) (h0 : 55296 ≤ x) (h : x < 56320) (h1 : 56320 ≤ y) (h2 : y ≤ 57343) : stepU (x :: y :: t) = some (65536 + (x - 55296) * 1024 + (y - 56320), 2) := by
  rw [stepU_c2, if_neg (by omega), if_pos h, if_pos ⟨h1, h2⟩]
theorem stepU_low {x : Nat} (t : List Nat) (h : 56320 ≤ x) (h2 : x ≤ 57343) : stepU (x :: t) = none := by
  rw [stepU_c, if_neg (by omega), if_neg (by omega)]
theorem stepU_end {x : Nat} (h : 55296 ≤ x) (h2 : x < 56320) : stepU [x] = none := by
  rw [stepU_c1, if_neg (by omega), if_pos h2]
theorem stepU_bad {x y : Nat} (t : List Nat) (h : 55296 ≤ x) (h2 : x < 56320) (h3 : y < 56320 ∨ 57343 < y) : stepU (x :: y :: t) = none := by
  rw [stepU_c2, if_neg (by omega), if_pos h2, if_neg (by omega)]

theorem stepU_says {l : List Nat} {c m : Nat} (h : stepU l = some (c, m)) (h16 : ∀ x ∈ l, x < 65536) : 1 ≤ m ∧ m ≤ l.length ∧ scalar c ∧ l.take m = unitsOf c := by
  unfold scalar unitsOf
  match l, h with
  | [], h => simp [stepU] at h
  | [x], h =>
    have hx := h16 x (by simp)
    rw [stepU_c1] at h
    split at h
    · simp only [Option.some.injEq, Prod.mk.injEq] at h
      obtain ⟨rfl, rfl⟩ := h
      rw [if_pos hx]
      exact ⟨by omega, by simp, by omega, by simp⟩
    · split at h <;> simp at h
  | x :: y :: t, h =>
    have hx := h16 x (by simp)
    rw [stepU_c2] at h
    split at h
    · simp only [Option.some.injEq, Prod.mk.injEq] at h
      obtain ⟨rfl, rfl⟩ := h
      rw [if_pos hx]
      exact ⟨by omega, by simp, by omega, by simp⟩
    · split at h
      · split at h
        · simp only [Option.some.injEq, Prod.mk.injEq] at h
          obtain ⟨rfl, rfl⟩ := h
          rw [if_neg (by omega)]
          refine ⟨by omega, by simp, by omega, ?_⟩
          simp only [List.take_succ_cons, List.take_zero, List.cons.injEq, and_true]
          omega
        · simp at h
      · simp at h
theorem stepU_pos {l : List Nat} {c m : Nat} (h : stepU l = some (c, m)) : 1 ≤ m ∧ m ≤ l.length := by
  match l, h with
  | [], h => simp [stepU] at h
  | [x], h =>
    rw [stepU_c1] at h
    split at h
    · simp only [Option.some.injEq, Prod.mk.injEq] at h
      obtain ⟨rfl, rfl⟩ := h
      simp
    · split at h <;> simp at h
  | x :: y :: t, h =>
    rw [stepU_c2] at h
    split at h
    · simp only [Option.some.injEq, Prod.mk.injEq] at h
      obtain ⟨rfl, rfl⟩ := h
      simp
    · split at h
      · split at h
        · simp only [Option.some.injEq, Prod.mk.injEq] at h
          obtain ⟨rfl, rfl⟩ := h
          simp
        · simp at h
      · simp at h
theorem rdF_fuel (f : Nat) (l : List Nat) (h : l.length ≤ f) : rdF f l = rdF l.length l := by
  induction f using Nat.strongRecOn generalizing l with
  | ind f ih =>
    cases f with
    | zero => rw [Nat.le_zero.1 h]
    | succ f =>
      cases hl : l.length with
      | zero =>
        have : l = [] := List.length_eq_zero_iff.1 hl
        subst this
        simp only [rdF, stepU]
      | succ m =>
        simp only [rdF]
        cases hf : stepU l with
        | some cm =>
          obtain ⟨c, n⟩ := cm
          obtain ⟨h1, h3⟩ := stepU_pos hf
          have e1 := ih f (Nat.lt_succ_self f) (l.drop n) (by rw [List.length_drop]; omega)
          have e2 := ih m (by omega) (l.drop n) (by rw [List.length_drop]; omega)
          simp only [e1, e2]
        | none => rfl
theorem rdU_ok {l : List Nat} {c n : Nat} (h : stepU l = some (c, n)) : rdU l = (c :: (rdU (l.drop n)).1, n + (rdU (l.drop n)).2) := by
  obtain ⟨h1, h3⟩ := stepU_pos h
  unfold rdU
  obtain ⟨m, hm⟩ : ∃ m, l.length = m + 1 := ⟨l.length - 1, by omega⟩
  rw [hm]
  simp only [rdF, h]
  rw [rdF_fuel m (l.drop n) (by rw [List.length_drop]; omega)]
theorem rdU_stop {l : List Nat} (h : stepU l = none) : rdU l = ([], 0) := by
  unfold rdU
  cases l.length with
  | zero => rfl
  | succ m => simp only [rdF, h]
theorem rdU_nil : rdU [] = ([], 0) := rfl

theorem rdU_len (l : List Nat) : (rdU l).1.length ≤ l.length ∧ (rdU l).2 ≤ l.length := by
  obtain ⟨d, hd⟩ : ∃ d, l.length = d := ⟨_, rfl⟩
  induction d using Nat.strongRecOn generalizing l with
  | ind d ih =>
    cases h : stepU l with
    | none => rw [rdU_stop h]; simp
    | some cm =>
      obtain ⟨c, n⟩ := cm
      obtain ⟨h1, h2⟩ := stepU_pos h
      have k := ih (l.drop n).length (by rw [List.length_drop]; omega) (l.drop n) rfl
      rw [List.length_drop] at k
      rw [rdU_ok h]
      simp only [List.length_cons]
      omega
theorem rdU_back (l : List Nat) (h16 : ∀ x ∈ l, x < 65536) : (∀ c ∈ (rdU l).1, scalar c) ∧ l.take (rdU l).2 = (rdU l).1.flatMap unitsOf := by
  obtain ⟨d, hd⟩ : ∃ d, l.length = d := ⟨_, rfl⟩
  induction d using Nat.strongRecOn generalizing l with
  | ind d ih =>
    cases h : stepU l with
    | none => rw [rdU_stop h]; simp
    | some cm =>
      obtain ⟨c, n⟩ := cm
      obtain ⟨h1, h2, h3, h4⟩ := stepU_says h h16
      have k := ih (l.drop n).length (by rw [List.length_drop]; omega) (l.drop n) (fun x hx => h16 x (List.mem_of_mem_drop hx)) rfl
      rw [rdU_ok h]
      refine ⟨fun x hx => ?_, ?_⟩
      · rcases List.mem_cons.1 hx with rfl | hx
        · exact h3
        · exact k.1 x hx
      · rw [List.flatMap_cons, ← k.2, ← h4, List.take_add]
theorem stepU_units (c : Nat) (hc : scalar c) (t : List Nat) : stepU (unitsOf c ++ t) = some (c, (unitsOf c).length) := by
  unfold scalar at hc
  unfold unitsOf
  split
  · exact stepU_one t (by omega)
  · rw [List.cons_append, List.cons_append, List.nil_append, stepU_two t (by omega) (by omega) (by omega) (by omega)]
    simp only [Option.some.injEq, Prod.mk.injEq, List.length_cons, List.length_nil, and_true]
    omega
theorem rdU_units (cs : List Nat) (h : ∀ c ∈ cs, scalar c) : rdU (cs.flatMap unitsOf) = (cs, (cs.flatMap unitsOf).length) := by
  induction cs with
  | nil => rfl
  | cons c cs ih =>
    have e := stepU_units c (h c (by simp)) (cs.flatMap unitsOf)
    have k := ih (fun x hx => h x (by simp [hx]))
    rw [List.flatMap_cons, rdU_ok e, List.drop_left, k, List.length_append]

theorem textOf_snoc (cs : List Nat) (c : Nat) : textOf (cs ++ [c]) = textOf cs ++ encodeRune (c : Int) := by
  unfold textOf
  rw [List.flatMap_append]
  simp
theorem textOf_le (cs : List Nat) : (textOf cs).length ≤ 4 * cs.length := by
  induction cs with
  | nil => simp [textOf]
  | cons c cs ih =>
    have h : (encodeRune (c : Int)).length ≤ 4 := by rw [← runeCells_length]; exact (runeCells_le _).2
    have e : textOf (c :: cs) = encodeRune (c : Int) ++ textOf cs := by simp [textOf]
    rw [e, List.length_append, List.length_cons]
    omega
/-- The text of a right text's characters is that text. -/
theorem text_runes {l : List UInt8} (h : Forms l) : textOf ((runesOf l 0).map Prod.fst) = l := by
  induction h with
  | nil => rfl
  | cons l r n hf h ih =>
    obtain ⟨_, h2, _⟩ := form_enc hf
    rw [runesOf_ok hf 0, List.map_cons, runes_shift _ (0 + n) 0]
    have e : ∀ cs, textOf (r :: cs) = encodeRune (r : Int) ++ textOf cs := fun cs => by simp [textOf]
    rw [e, ih, ← h2, List.take_append_drop]
theorem forms_text (cs : List Nat) (h : ∀ c ∈ cs, scalar c) : Forms (textOf cs) ∧ (runesOf (textOf cs) 0).map Prod.fst = cs := by
  induction cs with
  | nil => exact ⟨.nil, rfl⟩
  | cons c cs ih =>
    obtain ⟨k1, k2⟩ := ih (fun x hx => h x (by simp [hx]))
    have e : textOf (c :: cs) = encodeRune (c : Int) ++ textOf cs := by simp [textOf]
    have hf := enc_form c (h c (by simp)) (textOf cs)
    rw [e]
    refine ⟨.cons _ c _ hf (by rw [List.drop_left]; exact k1), ?_⟩
    rw [runesOf_ok hf 0, List.drop_left, List.map_cons, runes_shift _ _ 0, k2]
theorem rt_of_forms {l : List UInt8} (h : Forms l) : rt l = true := by
  suffices H : ∀ i c, c.left = 0 → (chk l i c).2.1 = false ∧ (chk l i c).2.2.left = 0 by
    obtain ⟨h1, h2⟩ := H 0 cur0 rfl
    unfold rt
    rw [h1, h2]
    rfl
  induction h with
  | nil => exact fun i c hc => ⟨rfl, hc⟩
  | cons l r n hf h ih =>
    intro i c hc
    have hl : l ≠ [] := by
      rintro rfl
      simp [formAt] at hf
    have k := formAt_says c hc l i hl
    rw [hf] at k
    obtain ⟨_, _, _, d, hd, e⟩ := k
    rw [e]
    exact ih _ d hd
end Go.Proofs.Ytjbhehkkigopmaa
