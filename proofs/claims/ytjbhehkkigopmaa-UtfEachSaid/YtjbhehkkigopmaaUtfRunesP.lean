/- Plain: a right text's characters with their places, and its units. -/
import Derived.Test.YtjbhehkkigopmaaUtfEnc
namespace Go.Proofs.Ytjbhehkkigopmaa
open Go.Lib

/-- The characters of a row, from its head on, as far as forms are whole. -/
def runesF : Nat → List UInt8 → Nat → List (Nat × Nat)
  | 0, _, _ => []
  | f + 1, l, i => match formAt l with
    | .ok r n => (r, i) :: runesF f (l.drop n) (i + n)
    | _ => []
def runesOf (l : List UInt8) (i : Nat) : List (Nat × Nat) := runesF l.length l i

theorem form_pos {l : List UInt8} {r n : Nat} (h : formAt l = .ok r n) : 1 ≤ n ∧ n ≤ 4 ∧ n ≤ l.length := by
  have k := form_shape h
  cases k <;> simp
theorem runesF_fuel (f : Nat) (l : List UInt8) (i : Nat) (h : l.length ≤ f) : runesF f l i = runesF l.length l i := by
  induction f using Nat.strongRecOn generalizing l i with
  | ind f ih =>
    cases f with
    | zero => rw [Nat.le_zero.1 h]
    | succ f =>
      cases hl : l.length with
      | zero =>
        have : l = [] := List.length_eq_zero_iff.1 hl
        subst this
        simp only [runesF, formAt]
      | succ m =>
        simp only [runesF]
        cases hf : formAt l with
        | ok r n =>
          obtain ⟨h1, h2, h3⟩ := form_pos hf
          have e1 := ih f (Nat.lt_succ_self f) (l.drop n) (i + n) (by rw [List.length_drop]; omega)
          have e2 := ih m (by omega) (l.drop n) (i + n) (by rw [List.length_drop]; omega)
          simp only [e1, e2]
        | byte k => rfl
        | cut => rfl
theorem runesOf_nil (i : Nat) : runesOf [] i = [] := rfl
theorem runesOf_ok {l : List UInt8} {r n : Nat} (h : formAt l = .ok r n) (i : Nat) : runesOf l i = (r, i) :: runesOf (l.drop n) (i + n) := by
  obtain ⟨h1, h2, h3⟩ := form_pos h
  unfold runesOf
  obtain ⟨m, hm⟩ : ∃ m, l.length = m + 1 := ⟨l.length - 1, by omega⟩
  rw [hm]
  simp only [runesF, h]
  rw [runesF_fuel m (l.drop n) (i + n) (by rw [List.length_drop]; omega)]
theorem runesOf_stop {l : List UInt8} (h : ∀ r n, formAt l ≠ .ok r n) (i : Nat) : runesOf l i = [] := by
  unfold runesOf
  cases hl : l.length with
  | zero => rfl
  | succ m =>
    unfold runesF
    cases hf : formAt l with
    | ok r n => exact absurd hf (h r n)
    | byte k => rfl
    | cut => rfl

/-- The units of a character. -/
def unitsOf (r : Nat) : List Nat := if r < 65536 then [r] else [55296 + (r - 65536) / 1024, 56320 + (r - 65536) % 1024]
theorem unitsOf_len (r : Nat) : (unitsOf r).length = if r < 65536 then 1 else 2 := by unfold unitsOf; split <;> rfl
def unitsS (l : List UInt8) : List Nat := (runesOf l 0).flatMap fun x => unitsOf x.1

theorem runesOf_len (l : List UInt8) (i : Nat) : (runesOf l i).length ≤ l.length := by
  suffices H : ∀ f (l : List UInt8) i, (runesF f l i).length ≤ f from H _ _ _
  intro f
  induction f with
  | zero => intro l i; simp [runesF]
  | succ f ih =>
    intro l i
    simp only [runesF]
    cases hf : formAt l with
    | ok r n =>
      have h := ih (l.drop n) (i + n)
      show (((r, i) :: runesF f (l.drop n) (i + n)).length) ≤ f + 1
      rw [List.length_cons]
      omega
    | byte k => exact Nat.zero_le _
    | cut => exact Nat.zero_le _
theorem runesOf_scalar (l : List UInt8) (i : Nat) : ∀ x ∈ runesOf l i, scalar x.1 := by
  suffices H : ∀ f (l : List UInt8) i, ∀ x ∈ runesF f l i, scalar x.1 from H _ _ _
  intro f
  induction f with
  | zero => intro l i x hx; simp [runesF] at hx
  | succ f ih =>
    intro l i x hx
    simp only [runesF] at hx
    cases hf : formAt l with
    | ok r n =>
      rw [hf] at hx
      rcases List.mem_cons.1 hx with rfl | hx
      · exact (form_enc hf).1
      · exact ih _ _ x hx
    | byte k => rw [hf] at hx; simp at hx
    | cut => rw [hf] at hx; simp at hx
end Go.Proofs.Ytjbhehkkigopmaa
