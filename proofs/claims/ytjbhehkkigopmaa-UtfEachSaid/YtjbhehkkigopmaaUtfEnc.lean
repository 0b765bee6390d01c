/- Plain: characters and their forms: the form of a character is read as that character, and each form that is read is its character's. -/
import Derived.Test.YtjbhehkkigopmaaUtfForm
import Derived.Lib.RuneBytes
import Derived.Laws.RangeAny
namespace Go.Proofs.Ytjbhehkkigopmaa
open Go.Lib

/-- A number that is a character. -/
def scalar (r : Nat) : Prop := r < 55296 ∨ (57343 < r ∧ r ≤ 1114111)

/-- The shapes of forms. -/
inductive FormOk : List UInt8 → Nat → Nat → Prop
  | one (x : UInt8) (t : List UInt8) (h : x.toNat < 128) : FormOk (x :: t) x.toNat 1
  | two (x y : UInt8) (t : List UInt8) (h1 : 194 ≤ x.toNat) (h2 : x.toNat ≤ 223) (h3 : 128 ≤ y.toNat) (h4 : y.toNat ≤ 191) : FormOk (x :: y :: t) ((x.toNat - 192) * 64 + (y.toNat - 128)) 2
  | three (x y z : UInt8) (t : List UInt8) (h1 : 224 ≤ x.toNat) (h2 : x.toNat ≤ 239) (h3 : loOf x.toNat ≤ y.toNat) (h4 : y.toNat ≤ hiOf x.toNat) (h5 : 128 ≤ z.toNat) (h6 : z.toNat ≤ 191) :
      FormOk (x :: y :: z :: t) (((x.toNat - 224) * 64 + (y.toNat - 128)) * 64 + (z.toNat - 128)) 3
  | four (x y z u : UInt8) (t : List UInt8) (h1 : 240 ≤ x.toNat) (h2 : x.toNat ≤ 244) (h3 : loOf x.toNat ≤ y.toNat) (h4 : y.toNat ≤ hiOf x.toNat) (h5 : 128 ≤ z.toNat) (h6 : z.toNat ≤ 191) (h7 : 128 ≤ u.toNat) (h8 : u.toNat ≤ 191) :
      FormOk (x :: y :: z :: u :: t) ((((x.toNat - 240) * 64 + (y.toNat - 128)) * 64 + (z.toNat - 128)) * 64 + (u.toNat - 128)) 4

theorem formOn_step {k lo hi acc : Nat} {x : UInt8} {t : List UInt8} {i : Nat} {r n : Nat} (h : formOn (k + 1) lo hi acc (x :: t) i = .ok r n) : lo ≤ x.toNat ∧ x.toNat ≤ hi ∧ formOn k 128 191 (acc * 64 + (x.toNat - 128)) t (i + 1) = .ok r n := by
  simp only [formOn] at h
  by_cases hx : x.toNat < lo ∨ hi < x.toNat
  · rw [if_pos hx] at h; cases h
  · rw [if_neg hx] at h; exact ⟨by omega, by omega, h⟩
theorem formOn_nil {k lo hi acc : Nat} {i : Nat} {r n : Nat} (h : formOn (k + 1) lo hi acc [] i = .ok r n) : False := by
  simp only [formOn] at h; cases h

theorem form_shape {l : List UInt8} {r n : Nat} (h : formAt l = .ok r n) : FormOk l r n := by
  cases l with
  | nil => cases h
  | cons x t =>
    simp only [formAt] at h
    by_cases h1 : x.toNat < 128
    · rw [if_pos h1] at h; cases h; exact .one x t h1
    rw [if_neg h1] at h
    by_cases h2 : x.toNat < 194 ∨ 244 < x.toNat
    · rw [if_pos h2] at h; cases h
    rw [if_neg h2] at h
    by_cases c2 : x.toNat < 224
    · have e1 : leftOf x.toNat = 1 := by unfold leftOf; rw [if_pos c2]
      have e2 : loOf x.toNat = 128 := by unfold loOf; rw [if_neg (by omega), if_neg (by omega)]
      have e3 : hiOf x.toNat = 191 := by unfold hiOf; rw [if_neg (by omega), if_neg (by omega)]
      have e4 : leadOf x.toNat = x.toNat - 192 := by unfold leadOf; rw [if_pos c2]
      rw [e1, e2, e3, e4] at h
      cases t with
      | nil => exact (formOn_nil h).elim
      | cons y t =>
        obtain ⟨a1, a2, h⟩ := formOn_step h
        simp only [formOn, Form.ok.injEq] at h
        obtain ⟨rfl, rfl⟩ := h
        exact .two x y t (by omega) (by omega) a1 a2
    · by_cases c3 : x.toNat < 240
      · have e1 : leftOf x.toNat = 2 := by unfold leftOf; rw [if_neg c2, if_pos c3]
        have e4 : leadOf x.toNat = x.toNat - 224 := by unfold leadOf; rw [if_neg c2, if_pos c3]
        rw [e1, e4] at h
        cases t with
        | nil => exact (formOn_nil h).elim
        | cons y t =>
          obtain ⟨a1, a2, h⟩ := formOn_step h
          cases t with
          | nil => exact (formOn_nil h).elim
          | cons z t =>
            obtain ⟨b1, b2, h⟩ := formOn_step h
            simp only [formOn, Form.ok.injEq] at h
            obtain ⟨rfl, rfl⟩ := h
            exact .three x y z t (by omega) (by omega) a1 a2 b1 b2
      · have e1 : leftOf x.toNat = 3 := by unfold leftOf; rw [if_neg c2, if_neg c3]
        have e4 : leadOf x.toNat = x.toNat - 240 := by unfold leadOf; rw [if_neg c2, if_neg c3]
        rw [e1, e4] at h
        cases t with
        | nil => exact (formOn_nil h).elim
        | cons y t =>
          obtain ⟨a1, a2, h⟩ := formOn_step h
          cases t with
          | nil => exact (formOn_nil h).elim
          | cons z t =>
            obtain ⟨b1, b2, h⟩ := formOn_step h
            cases t with
            | nil => exact (formOn_nil h).elim
            | cons u t =>
              obtain ⟨d1, d2, h⟩ := formOn_step h
              simp only [formOn, Form.ok.injEq] at h
              obtain ⟨rfl, rfl⟩ := h
              exact .four x y z u t (by omega) (by omega) a1 a2 b1 b2 d1 d2

theorem shape_form {l : List UInt8} {r n : Nat} (h : FormOk l r n) : formAt l = .ok r n := by
  cases h with
  | one x t h => simp only [formAt]; rw [if_pos h]
  | two x y t h1 h2 h3 h4 =>
    have e1 : leftOf x.toNat = 1 := by unfold leftOf; rw [if_pos (by omega)]
    have e2 : loOf x.toNat = 128 := by unfold loOf; rw [if_neg (by omega), if_neg (by omega)]
    have e3 : hiOf x.toNat = 191 := by unfold hiOf; rw [if_neg (by omega), if_neg (by omega)]
    have e4 : leadOf x.toNat = x.toNat - 192 := by unfold leadOf; rw [if_pos (by omega)]
    simp only [formAt]
    rw [if_neg (by omega), if_neg (by omega), e1, e2, e3, e4]
    simp only [formOn]
    rw [if_neg (by omega)]
  | three x y z t h1 h2 h3 h4 h5 h6 =>
    have e1 : leftOf x.toNat = 2 := by unfold leftOf; rw [if_neg (by omega), if_pos (by omega)]
    have e4 : leadOf x.toNat = x.toNat - 224 := by unfold leadOf; rw [if_neg (by omega), if_pos (by omega)]
    simp only [formAt]
    rw [if_neg (by omega), if_neg (by omega), e1, e4]
    simp only [formOn]
    rw [if_neg (by omega), if_neg (by omega)]
  | four x y z u t h1 h2 h3 h4 h5 h6 h7 h8 =>
    have e1 : leftOf x.toNat = 3 := by unfold leftOf; rw [if_neg (by omega), if_neg (by omega)]
    have e4 : leadOf x.toNat = x.toNat - 240 := by unfold leadOf; rw [if_neg (by omega), if_neg (by omega)]
    simp only [formAt]
    rw [if_neg (by omega), if_neg (by omega), e1, e4]
    simp only [formOn]
    rw [if_neg (by omega), if_neg (by omega), if_neg (by omega)]

theorem u8_toNat (k : Nat) (h : k < 256) : (k.toUInt8).toNat = k := by
  simp [Nat.toUInt8]; omega
theorem u8_back (x : UInt8) (k : Nat) (h : k = x.toNat) : k.toUInt8 = x := by subst h; simp [Nat.toUInt8]

/-- A form is its character's. -/
theorem form_enc {l : List UInt8} {r n : Nat} (h : formAt l = .ok r n) : scalar r ∧ l.take n = encodeRune r ∧ (encodeRune r).length = n := by
  have k := form_shape h
  clear h
  cases k with
  | one x t h =>
    rw [encodeRune, encodeRuneZ_one (by omega) (by omega)]
    refine ⟨.inl (by omega), ?_, rfl⟩
    simp only [List.map_cons, List.map_nil, List.take_succ_cons, List.take_zero]
    rw [u8_back x _ (by omega)]
  | two x y t h1 h2 h3 h4 =>
    rw [encodeRune, encodeRuneZ_two (by omega) (by omega)]
    refine ⟨.inl (by omega), ?_, rfl⟩
    simp only [List.map_cons, List.map_nil, List.take_succ_cons, List.take_zero]
    rw [u8_back x _ (by omega), u8_back y _ (by omega)]
  | three x y z t h1 h2 h3 h4 h5 h6 =>
    have hy := y.toNat_lt
    have hr : 2048 ≤ (((x.toNat - 224) * 64 + (y.toNat - 128)) * 64 + (z.toNat - 128)) ∧ ¬ (55296 ≤ (((x.toNat - 224) * 64 + (y.toNat - 128)) * 64 + (z.toNat - 128)) ∧ (((x.toNat - 224) * 64 + (y.toNat - 128)) * 64 + (z.toNat - 128)) ≤ 57343) ∧ 128 ≤ y.toNat ∧ y.toNat ≤ 191 := by
      unfold loOf at h3; unfold hiOf at h4
      split at h3 <;> split at h4 <;> (try split at h3) <;> (try split at h4) <;> omega
    rw [encodeRune, encodeRuneZ_three (by omega)]
    refine ⟨by unfold scalar; omega, ?_, rfl⟩
    simp only [List.map_cons, List.map_nil, List.take_succ_cons, List.take_zero]
    rw [u8_back x _ (by omega), u8_back y _ (by omega), u8_back z _ (by omega)]
  | four x y z u t h1 h2 h3 h4 h5 h6 h7 h8 =>
    have hr : 65536 ≤ ((((x.toNat - 240) * 64 + (y.toNat - 128)) * 64 + (z.toNat - 128)) * 64 + (u.toNat - 128)) ∧ ((((x.toNat - 240) * 64 + (y.toNat - 128)) * 64 + (z.toNat - 128)) * 64 + (u.toNat - 128)) ≤ 1114111 ∧ 128 ≤ y.toNat ∧ y.toNat ≤ 191 := by
      unfold loOf at h3; unfold hiOf at h4
      split at h3 <;> split at h4 <;> (try split at h3) <;> (try split at h4) <;> omega
    rw [encodeRune, encodeRuneZ_four (by omega) (by omega)]
    refine ⟨by unfold scalar; omega, ?_, rfl⟩
    simp only [List.map_cons, List.map_nil, List.take_succ_cons, List.take_zero]
    rw [u8_back x _ (by omega), u8_back y _ (by omega), u8_back z _ (by omega), u8_back u _ (by omega)]

/-- A character's form is read as it. -/
theorem enc_form (r : Nat) (hr : scalar r) (t : List UInt8) : formAt (encodeRune r ++ t) = .ok r (encodeRune r).length := by
  apply shape_form
  unfold scalar at hr
  by_cases h1 : r < 128
  · rw [encodeRune, encodeRuneZ_one (by omega) (by omega)]
    simp only [List.map_cons, List.map_nil, List.cons_append, List.nil_append, List.length_cons, List.length_nil, Int.toNat_natCast]
    have h := FormOk.one r.toUInt8 t (by rw [u8_toNat _ (by omega)]; exact h1)
    rw [u8_toNat _ (by omega)] at h
    exact h
  by_cases h2 : r < 2048
  · rw [encodeRune, encodeRuneZ_two (by omega) (by omega)]
    have e1 : (192 + (r : Int) / 64).toNat = 192 + r / 64 := by omega
    have e2 : (128 + (r : Int) % 64).toNat = 128 + r % 64 := by omega
    simp only [List.map_cons, List.map_nil, List.cons_append, List.nil_append, List.length_cons, List.length_nil, e1, e2]
    have u1 := u8_toNat (192 + r / 64) (by omega)
    have u2 := u8_toNat (128 + r % 64) (by omega)
    have h := FormOk.two (192 + r / 64).toUInt8 (128 + r % 64).toUInt8 t (by omega) (by omega) (by omega) (by omega)
    rw [u1, u2, show (192 + r / 64 - 192) * 64 + (128 + r % 64 - 128) = r by omega] at h
    exact h
  by_cases h3 : r < 65536
  · rw [encodeRune, encodeRuneZ_three (by omega)]
    have e1 : (224 + (r : Int) / 4096).toNat = 224 + r / 4096 := by omega
    have e2 : (128 + (r : Int) / 64 % 64).toNat = 128 + r / 64 % 64 := by omega
    have e3 : (128 + (r : Int) % 64).toNat = 128 + r % 64 := by omega
    simp only [List.map_cons, List.map_nil, List.cons_append, List.nil_append, List.length_cons, List.length_nil, e1, e2, e3]
    have u1 := u8_toNat (224 + r / 4096) (by omega)
    have u2 := u8_toNat (128 + r / 64 % 64) (by omega)
    have u3 := u8_toNat (128 + r % 64) (by omega)
    have h := FormOk.three (224 + r / 4096).toUInt8 (128 + r / 64 % 64).toUInt8 (128 + r % 64).toUInt8 t (by omega) (by omega)
      (by rw [u1, u2]; unfold loOf; (repeat' split) <;> omega) (by rw [u1, u2]; unfold hiOf; (repeat' split) <;> omega) (by omega) (by omega)
    rw [u1, u2, u3, show ((224 + r / 4096 - 224) * 64 + (128 + r / 64 % 64 - 128)) * 64 + (128 + r % 64 - 128) = r by omega] at h
    exact h
  · rw [encodeRune, encodeRuneZ_four (by omega) (by omega)]
    have e1 : (240 + (r : Int) / 262144).toNat = 240 + r / 262144 := by omega
    have e2 : (128 + (r : Int) / 4096 % 64).toNat = 128 + r / 4096 % 64 := by omega
    have e3 : (128 + (r : Int) / 64 % 64).toNat = 128 + r / 64 % 64 := by omega
    have e4 : (128 + (r : Int) % 64).toNat = 128 + r % 64 := by omega
    simp only [List.map_cons, List.map_nil, List.cons_append, List.nil_append, List.length_cons, List.length_nil, e1, e2, e3, e4]
    have u1 := u8_toNat (240 + r / 262144) (by omega)
    have u2 := u8_toNat (128 + r / 4096 % 64) (by omega)
    have u3 := u8_toNat (128 + r / 64 % 64) (by omega)
    have u4 := u8_toNat (128 + r % 64) (by omega)
    have h := FormOk.four (240 + r / 262144).toUInt8 (128 + r / 4096 % 64).toUInt8 (128 + r / 64 % 64).toUInt8 (128 + r % 64).toUInt8 t (by omega) (by omega)
      (by rw [u1, u2]; unfold loOf; (repeat' split) <;> omega) (by rw [u1, u2]; unfold hiOf; (repeat' split) <;> omega) (by omega) (by omega) (by omega) (by omega)
    rw [u1, u2, u3, u4, show (((240 + r / 262144 - 240) * 64 + (128 + r / 4096 % 64 - 128)) * 64 + (128 + r / 64 % 64 - 128)) * 64 + (128 + r % 64 - 128) = r by omega] at h
    exact h

theorem get_drop (s : ByteArray) (i k : Nat) (x : UInt8) (h : (s.data.toList.drop i)[k]? = some x) : s.get! (i + k) = x ∧ i + k < s.size := by
  rw [List.getElem?_drop] at h
  obtain ⟨h1, h2⟩ := List.getElem?_eq_some_iff.1 h
  have h1' : i + k < s.size := by rw [Array.length_toList] at h1; exact h1
  refine ⟨?_, h1'⟩
  have e : s.get! (i + k) = s[i + k]'h1' := get_at s (i + k) h1'
  rw [e, ← h2]
  rfl

/-- The model reads a form as the document does. -/
theorem decode_form (s : ByteArray) (i r n : Nat) (h : formAt (s.data.toList.drop i) = .ok r n) : Utf8.decode s i = (r, n) := by
  have k := form_shape h
  clear h
  generalize hl : s.data.toList.drop i = l at k
  have g := fun (k : Nat) (x : UInt8) (hx : l[k]? = some x) => get_drop s i k x (by rw [hl]; exact hx)
  cases k with
  | one x t h =>
    obtain ⟨a1, a2⟩ := g 0 x rfl
    simp only [Utf8.decode, a1, h, if_true]
  | two x y t h1 h2 h3 h4 =>
    obtain ⟨a1, a2⟩ := g 0 x rfl
    obtain ⟨b1, b2⟩ := g 1 y rfl
    have e1 : ¬ x.toNat < 128 := by omega
    have e2 : x.toNat / 32 = 6 := by omega
    have e3 : y.toNat / 64 = 2 := by omega
    have e4 : x.toNat % 32 * 64 + y.toNat % 64 ≥ 128 := by omega
    have e5 : x.toNat % 32 * 64 + y.toNat % 64 = (x.toNat - 192) * 64 + (y.toNat - 128) := by omega
    rw [e5] at e4
    simp only [Utf8.decode, a1, b1, b2, e1, e2, e3, e4, e5, if_false, if_true, decide_true, beq_self_eq_true, Bool.and_self]
  | three x y z t h1 h2 h3 h4 h5 h6 =>
    obtain ⟨a1, a2⟩ := g 0 x rfl
    obtain ⟨b1, b2⟩ := g 1 y rfl
    obtain ⟨d1, d2⟩ := g 2 z rfl
    have hr : 2048 ≤ (((x.toNat - 224) * 64 + (y.toNat - 128)) * 64 + (z.toNat - 128)) ∧ ¬ (55296 ≤ (((x.toNat - 224) * 64 + (y.toNat - 128)) * 64 + (z.toNat - 128)) ∧ (((x.toNat - 224) * 64 + (y.toNat - 128)) * 64 + (z.toNat - 128)) ≤ 57343) ∧ 128 ≤ y.toNat ∧ y.toNat ≤ 191 := by
      unfold loOf at h3; unfold hiOf at h4
      split at h3 <;> split at h4 <;> (try split at h3) <;> (try split at h4) <;> omega
    have e1 : ¬ x.toNat < 128 := by omega
    have e2 : (x.toNat / 32 == 6) = false := by rw [beq_eq_false_iff_ne]; omega
    have e3 : x.toNat / 16 = 14 := by omega
    have e4 : y.toNat / 64 = 2 := by omega
    have e5 : z.toNat / 64 = 2 := by omega
    have e6 : x.toNat % 16 * 4096 + y.toNat % 64 * 64 + z.toNat % 64 = (((x.toNat - 224) * 64 + (y.toNat - 128)) * 64 + (z.toNat - 128)) := by omega
    have e7 : Utf8.valid (((((x.toNat - 224) * 64 + (y.toNat - 128)) * 64 + (z.toNat - 128)) : Nat) : Int) = true := by
      simp only [Utf8.valid, Bool.or_eq_true, Bool.and_eq_true, decide_eq_true_eq]; omega
    have e8 := hr.1
    simp only [Utf8.decode, a1, b1, b2, d1, d2, e1, e2, e3, e4, e5, e6, e7, e8, if_false, if_true, decide_true, beq_self_eq_true, Bool.and_self, Bool.false_and, ge_iff_le, Bool.false_eq_true]
  | four x y z u t h1 h2 h3 h4 h5 h6 h7 h8 =>
    obtain ⟨a1, a2⟩ := g 0 x rfl
    obtain ⟨b1, b2⟩ := g 1 y rfl
    obtain ⟨d1, d2⟩ := g 2 z rfl
    obtain ⟨u1, u2⟩ := g 3 u rfl
    have hr : 65536 ≤ ((((x.toNat - 240) * 64 + (y.toNat - 128)) * 64 + (z.toNat - 128)) * 64 + (u.toNat - 128)) ∧ ((((x.toNat - 240) * 64 + (y.toNat - 128)) * 64 + (z.toNat - 128)) * 64 + (u.toNat - 128)) ≤ 1114111 ∧ 128 ≤ y.toNat ∧ y.toNat ≤ 191 := by
      unfold loOf at h3; unfold hiOf at h4
      split at h3 <;> split at h4 <;> (try split at h3) <;> (try split at h4) <;> omega
    have e1 : ¬ x.toNat < 128 := by omega
    have e2 : (x.toNat / 32 == 6) = false := by rw [beq_eq_false_iff_ne]; omega
    have e3 : (x.toNat / 16 == 14) = false := by rw [beq_eq_false_iff_ne]; omega
    have e3' : x.toNat / 8 = 30 := by omega
    have e4 : y.toNat / 64 = 2 := by omega
    have e5 : z.toNat / 64 = 2 := by omega
    have e5' : u.toNat / 64 = 2 := by omega
    have e6 : x.toNat % 8 * 262144 + y.toNat % 64 * 4096 + z.toNat % 64 * 64 + u.toNat % 64 = ((((x.toNat - 240) * 64 + (y.toNat - 128)) * 64 + (z.toNat - 128)) * 64 + (u.toNat - 128)) := by omega
    have e7 : Utf8.valid ((((((x.toNat - 240) * 64 + (y.toNat - 128)) * 64 + (z.toNat - 128)) * 64 + (u.toNat - 128)) : Nat) : Int) = true := by
      simp only [Utf8.valid, Bool.or_eq_true, Bool.and_eq_true, decide_eq_true_eq]; omega
    have e8 := hr.1
    simp only [Utf8.decode, a1, b1, b2, d1, d2, u1, u2, e1, e2, e3, e3', e4, e5, e5', e6, e7, e8, if_false, if_true, decide_true, beq_self_eq_true, Bool.and_self, Bool.false_and, ge_iff_le, Bool.false_eq_true]

/-- string(r) is the form. -/
theorem encode_form (r : Nat) (hr : scalar r) : (Utf8.encode r).data.toList = encodeRune r := by
  unfold scalar at hr
  have hv : Utf8.valid (r : Int) = true := by simp only [Utf8.valid, Bool.or_eq_true, Bool.and_eq_true, decide_eq_true_eq]; omega
  simp only [Utf8.encode, hv, if_true, Int.toNat_natCast]
  by_cases h1 : r < 128
  · rw [if_pos h1, encodeRune, encodeRuneZ_one (by omega) (by omega)]; rfl
  rw [if_neg h1]
  by_cases h2 : r < 2048
  · rw [if_pos h2, encodeRune, encodeRuneZ_two (by omega) (by omega)]
    have e1 : (192 + (r : Int) / 64).toNat = 192 + r / 64 := by omega
    have e2 : (128 + (r : Int) % 64).toNat = 128 + r % 64 := by omega
    simp only [List.map_cons, List.map_nil, e1, e2]
  rw [if_neg h2]
  by_cases h3 : r < 65536
  · rw [if_pos h3, encodeRune, encodeRuneZ_three (by omega)]
    have e1 : (224 + (r : Int) / 4096).toNat = 224 + r / 4096 := by omega
    have e2 : (128 + (r : Int) / 64 % 64).toNat = 128 + r / 64 % 64 := by omega
    have e3 : (128 + (r : Int) % 64).toNat = 128 + r % 64 := by omega
    simp only [List.map_cons, List.map_nil, e1, e2, e3]
  · rw [if_neg h3, encodeRune, encodeRuneZ_four (by omega) (by omega)]
    have e1 : (240 + (r : Int) / 262144).toNat = 240 + r / 262144 := by omega
    have e2 : (128 + (r : Int) / 4096 % 64).toNat = 128 + r / 4096 % 64 := by omega
    have e3 : (128 + (r : Int) / 64 % 64).toNat = 128 + r / 64 % 64 := by omega
    have e4 : (128 + (r : Int) % 64).toNat = 128 + r % 64 := by omega
    simp only [List.map_cons, List.map_nil, e1, e2, e3, e4]
end Go.Proofs.Ytjbhehkkigopmaa
