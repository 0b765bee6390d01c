/- Plain: the form that begins at a place: which character, and of how many bytes; or which byte is wrong, or that the text is cut. -/
import Derived.Test.YtjbhehkkigopmaaUtfCur
namespace Go.Proofs.Ytjbhehkkigopmaa

/-- What stands at the head of a row: a character of some bytes; a wrong byte so far on; or it is cut. -/
inductive Form where
  | ok (r n : Nat)
  | byte (k : Nat)
  | cut

/-- So many bytes are to come, the first of them within bounds. -/
def formOn : Nat → Nat → Nat → Nat → List UInt8 → Nat → Form
  | 0, _, _, acc, _, i => .ok acc i
  | _ + 1, _, _, _, [], _ => .cut
  | k + 1, lo, hi, acc, x :: t, i => if x.toNat < lo ∨ hi < x.toNat then .byte i else formOn k 128 191 (acc * 64 + (x.toNat - 128)) t (i + 1)

def leftOf (x : Nat) : Nat := if x < 224 then 1 else if x < 240 then 2 else 3
def loOf (x : Nat) : Nat := if x = 224 then 160 else if x = 240 then 144 else 128
def hiOf (x : Nat) : Nat := if x = 237 then 159 else if x = 244 then 143 else 191
def leadOf (x : Nat) : Nat := if x < 224 then x - 192 else if x < 240 then x - 224 else x - 240

def formAt : List UInt8 → Form
  | [] => .cut
  | x :: t => if x.toNat < 128 then .ok x.toNat 1 else if x.toNat < 194 ∨ 244 < x.toNat then .byte 0 else formOn (leftOf x.toNat) (loOf x.toNat) (hiOf x.toNat) (leadOf x.toNat) t 1

theorem stepC_lead' (c : Cur) (h0 : c.left = 0) (x : Nat) (h1 : 194 ≤ x) (h2 : x ≤ 244) : stepC c x = some ⟨leftOf x, loOf x, hiOf x⟩ := by
  unfold stepC
  rw [if_neg (by omega), if_neg (by omega), if_neg (by omega)]
  rfl

theorem leftOf_pos (x : Nat) : 0 < leftOf x := by unfold leftOf; (repeat' split) <;> omega
theorem leftOf_le (x : Nat) : leftOf x ≤ 3 := by unfold leftOf; (repeat' split) <;> omega

/-- What a form's rest says of the cursor's way. -/
def OnSays (k lo hi : Nat) (t : List UInt8) (i j : Nat) : Form → Prop
  | .ok _ n => j ≤ n ∧ n = j + k ∧ n - j ≤ t.length ∧ ∃ c : Cur, c.left = 0 ∧ chk t i ⟨k, lo, hi⟩ = chk (t.drop (n - j)) (i + (n - j)) c
  | .byte m => j ≤ m ∧ m - j < t.length ∧ m - j < k ∧ ∃ c : Cur, chk t i ⟨k, lo, hi⟩ = (i + (m - j), true, c)
  | .cut => t.length < k ∧ ∃ c : Cur, 0 < c.left ∧ chk t i ⟨k, lo, hi⟩ = (i + t.length, false, c)

theorem formOn_says (k lo hi acc : Nat) (t : List UInt8) (i j : Nat) : OnSays k lo hi t i j (formOn k lo hi acc t j) := by
  induction k generalizing lo hi acc t i j with
  | zero => exact ⟨Nat.le_refl _, rfl, by omega, ⟨0, lo, hi⟩, rfl, by simp⟩
  | succ k ih =>
    cases t with
    | nil => exact ⟨by simp, ⟨k + 1, lo, hi⟩, by simp, rfl⟩
    | cons x t =>
      simp only [formOn]
      by_cases h : x.toNat < lo ∨ hi < x.toNat
      · rw [if_pos h]
        refine ⟨Nat.le_refl _, by simp, by omega, ⟨k + 1, lo, hi⟩, ?_⟩
        rw [chk_wrong _ _ _ _ (by unfold stepC; rw [if_pos (by simp), if_pos h])]
        simp
      · rw [if_neg h]
        have hs : stepC ⟨k + 1, lo, hi⟩ x.toNat = some ⟨k, 128, 191⟩ := by unfold stepC; rw [if_pos (by simp), if_neg h]; rfl
        have ih := ih 128 191 (acc * 64 + (x.toNat - 128)) t (i + 1) (j + 1)
        have hc := chk_on x t i _ _ hs
        cases hf : formOn k 128 191 (acc * 64 + (x.toNat - 128)) t (j + 1) with
        | ok r n =>
          rw [hf] at ih
          obtain ⟨a1, a1', a2, c, a3, a4⟩ := ih
          refine ⟨by omega, by omega, by simp only [List.length_cons]; omega, c, a3, ?_⟩
          rw [hc, a4]
          have e : n - j = (n - (j + 1)) + 1 := by omega
          rw [e, List.drop_succ_cons]
          congr 1
          omega
        | byte m =>
          rw [hf] at ih
          obtain ⟨a1, a2, a2', c, a3⟩ := ih
          refine ⟨by omega, by simp only [List.length_cons]; omega, by omega, c, ?_⟩
          rw [hc, a3]
          congr 1
          omega
        | cut =>
          rw [hf] at ih
          obtain ⟨a0, c, a3, a4⟩ := ih
          refine ⟨by simp only [List.length_cons]; omega, c, a3, ?_⟩
          rw [hc, a4]
          congr 1
          simp only [List.length_cons]
          omega

/-- What a form says of the cursor's way. -/
def AtSays (c0 : Cur) (l : List UInt8) (i : Nat) : Form → Prop
  | .ok _ n => 0 < n ∧ n ≤ 4 ∧ n ≤ l.length ∧ ∃ c : Cur, c.left = 0 ∧ chk l i c0 = chk (l.drop n) (i + n) c
  | .byte m => m < l.length ∧ m < 4 ∧ ∃ c : Cur, chk l i c0 = (i + m, true, c)
  | .cut => l.length < 4 ∧ ∃ c : Cur, 0 < c.left ∧ chk l i c0 = (i + l.length, false, c)

theorem formAt_says (c0 : Cur) (h0 : c0.left = 0) (l : List UInt8) (i : Nat) (hl : l ≠ []) : AtSays c0 l i (formAt l) := by
  cases l with
  | nil => exact absurd rfl hl
  | cons x t =>
    simp only [formAt]
    by_cases h1 : x.toNat < 128
    · rw [if_pos h1]
      refine ⟨by omega, by omega, by simp, c0, h0, ?_⟩
      exact chk_on x t i _ _ (by unfold stepC; rw [if_neg (by omega), if_pos h1])
    · rw [if_neg h1]
      by_cases h2 : x.toNat < 194 ∨ 244 < x.toNat
      · rw [if_pos h2]
        refine ⟨by simp, by omega, c0, ?_⟩
        exact chk_wrong x t i _ (by unfold stepC; rw [if_neg (by omega), if_neg h1, if_pos h2])
      · rw [if_neg h2]
        have hs := stepC_lead' c0 h0 x.toNat (by omega) (by omega)
        have hc := chk_on x t i _ _ hs
        have ih := formOn_says (leftOf x.toNat) (loOf x.toNat) (hiOf x.toNat) (leadOf x.toNat) t (i + 1) 1
        have l3 := leftOf_le x.toNat
        cases hf : formOn (leftOf x.toNat) (loOf x.toNat) (hiOf x.toNat) (leadOf x.toNat) t 1 with
        | ok r n =>
          rw [hf] at ih
          obtain ⟨a1, a1', a2, c, a3, a4⟩ := ih
          refine ⟨by omega, by omega, by simp only [List.length_cons]; omega, c, a3, ?_⟩
          rw [hc, a4]
          obtain ⟨m, rfl⟩ : ∃ m, n = m + 1 := ⟨n - 1, by omega⟩
          rw [List.drop_succ_cons]
          simp only [Nat.add_sub_cancel]
          congr 1
          omega
        | byte m =>
          rw [hf] at ih
          obtain ⟨a1, a2, a2', c, a3⟩ := ih
          refine ⟨by simp only [List.length_cons]; omega, by omega, c, ?_⟩
          rw [hc, a3]
          congr 1
          omega
        | cut =>
          rw [hf] at ih
          obtain ⟨a0, c, a3, a4⟩ := ih
          refine ⟨by simp only [List.length_cons]; omega, c, a3, ?_⟩
          rw [hc, a4]
          congr 1
          simp only [List.length_cons]
          omega

/-- What is wrong with a row, and where: the numbers that the document gives; 0 and 0 of a right one. -/
def wrongS (l : List UInt8) : Nat × Nat := if (chk l 0 cur0).2.1 = true then (30, (chk l 0 cur0).1) else if 0 < (chk l 0 cur0).2.2.left then (31, (chk l 0 cur0).1) else (0, 0)

theorem chk_len (l : List UInt8) (i : Nat) (c : Cur) (h : (chk l i c).2.1 = false) : (chk l i c).1 = i + l.length := by
  induction l generalizing i c with
  | nil => simp [chk]
  | cons x t ih =>
    cases hs : stepC c x.toNat with
    | none => rw [chk_wrong x t i c hs] at h; cases h
    | some d =>
      rw [chk_on x t i c d hs] at h ⊢
      rw [ih _ _ h]
      simp only [List.length_cons]
      omega
theorem chk_le (l : List UInt8) (i : Nat) (c : Cur) : (chk l i c).1 ≤ i + l.length := by
  induction l generalizing i c with
  | nil => simp [chk]
  | cons x t ih =>
    cases hs : stepC c x.toNat with
    | none => rw [chk_wrong x t i c hs]; simp
    | some d =>
      rw [chk_on x t i c d hs]
      have := ih (i + 1) d
      simp only [List.length_cons]
      omega
theorem wrongS_le (l : List UInt8) : (wrongS l).2 ≤ l.length := by
  unfold wrongS
  have := chk_le l 0 cur0
  (repeat' split) <;> simp <;> omega
theorem wrongS_rt (l : List UInt8) : rt l = true ↔ (wrongS l).1 = 0 := by
  unfold rt wrongS
  cases h1 : (chk l 0 cur0).2.1
  · by_cases h2 : 0 < (chk l 0 cur0).2.2.left
    · simp [h2]; omega
    · simp [h2]; omega
  · simp
end Go.Proofs.Ytjbhehkkigopmaa
