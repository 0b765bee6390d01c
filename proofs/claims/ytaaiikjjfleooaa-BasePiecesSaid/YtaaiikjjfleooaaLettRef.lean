/- Plain: the letters of a row of bytes bit by bit, as the document's answer has them. -/
import Derived.Test.YtaaiikjjfleooaaLett
namespace Go.Proofs.Ytaaiikjjfleooaa

/-- The one great number of the letters: that of the bytes, with noughts behind. -/
def tot (q : Nat) (l : List UInt8) : Nat := val l * 2 ^ (q * (allNums q l).length - 8 * l.length)
/-- A bit of bytes, the highest of the first one first. -/
def bitAt (l : List UInt8) (i : Nat) : Nat := if i / 8 < l.length then (l.getD (i / 8) 0).toNat / 2 ^ (7 - i % 8) % 2 else 0

theorem byte_at (l : List UInt8) : ∀ p, p < l.length → val l / 2 ^ (8 * (l.length - 1 - p)) % 256 = (l.getD p 0).toNat := by
  refine snoc_ind (P := fun l => ∀ p, p < l.length → val l / 2 ^ (8 * (l.length - 1 - p)) % 256 = (l.getD p 0).toNat) (fun p h => by simp at h) (fun l b ih p hp => ?_) l
  rw [List.length_append, List.length_singleton] at hp ⊢
  rw [val_snoc]
  have hb := b.toNat_lt
  by_cases h : p < l.length
  · have e : l.length + 1 - 1 - p = 1 + (l.length - 1 - p) := by omega
    rw [e, Nat.mul_add, Nat.pow_add, ← Nat.div_div_eq_div_mul, show (256 * val l + b.toNat) / 2 ^ (8 * 1) = val l by omega, ih p h]
    congr 1
    simp [List.getD_eq_getElem?_getD, List.getElem?_append_left h]
  · obtain rfl : p = l.length := by omega
    rw [show l.length + 1 - 1 - l.length = 0 by omega]
    simp

theorem low_bit (x t : Nat) (h : t ≤ 7) : x % 256 / 2 ^ t % 2 = x / 2 ^ t % 2 := by
  have e : 256 = 2 ^ t * 2 ^ (8 - t) := by rw [← Nat.pow_add, show t + (8 - t) = 8 by omega]
  rw [e, Nat.mod_mul_right_div_self, Nat.mod_mod_of_dvd]
  exact ⟨2 ^ (7 - t), by rw [← Nat.pow_succ']; congr 1; omega⟩

theorem bitAt_tot (q : Nat) (hq : 0 < q) (l : List UInt8) (i : Nat) (h : i < q * (allNums q l).length) : bitAt l i = tot q l / 2 ^ (q * (allNums q l).length - (i + 1)) % 2 := by
  obtain ⟨_, h1, h2⟩ := all_facts q hq l
  unfold bitAt tot
  generalize (allNums q l).length = M at *
  generalize q * M = Q at *
  by_cases hi : i / 8 < l.length
  · rw [if_pos hi, ← byte_at l (i / 8) hi, low_bit _ _ (by omega), Nat.div_div_eq_div_mul, ← Nat.pow_add]
    have e : Q - (i + 1) = (8 * (l.length - 1 - i / 8) + (7 - i % 8)) + (Q - 8 * l.length) := by omega
    rw [e, Nat.pow_add 2 (8 * (l.length - 1 - i / 8) + (7 - i % 8)), Nat.mul_div_mul_right _ _ (Nat.two_pow_pos _)]
  · rw [if_neg hi]
    have e : Q - 8 * l.length = (Q - (i + 1)) + 1 + (i - 8 * l.length) := by omega
    rw [e, Nat.pow_add, Nat.pow_succ, Nat.mul_assoc, ← Nat.mul_assoc (val l), Nat.mul_comm (val l), Nat.mul_assoc, Nat.mul_div_cancel_left _ (Nat.two_pow_pos _)]
    rw [show val l * (2 * 2 ^ (i - 8 * l.length)) = 2 * (val l * 2 ^ (i - 8 * l.length)) by rw [Nat.mul_left_comm]]
    omega

/-- The number of a letter's first j bits. -/
def part (q : Nat) (l : List UInt8) (i j : Nat) : Nat := tot q l / 2 ^ (q * (allNums q l).length - (i * q + j)) % 2 ^ j

theorem part_zero (q : Nat) (l : List UInt8) (i : Nat) : part q l i 0 = 0 := by unfold part; rw [Nat.pow_zero, Nat.mod_one]
theorem part_succ (q : Nat) (hq : 0 < q) (l : List UInt8) (i j : Nat) (h : i * q + j < q * (allNums q l).length) : part q l i (j + 1) = 2 * part q l i j + bitAt l (i * q + j) := by
  rw [bitAt_tot q hq l _ h]
  unfold part
  have e : q * (allNums q l).length - (i * q + j) = (q * (allNums q l).length - (i * q + (j + 1))) + 1 := by omega
  rw [show i * q + j + 1 = i * q + (j + 1) by omega, e, Nat.pow_succ, Nat.pow_succ, ← Nat.div_div_eq_div_mul, Nat.mul_comm (2 ^ j) 2, Nat.mod_mul]
  omega

theorem all_at (q : Nat) (hq : 0 < q) (l : List UInt8) (i : Nat) (h : i < (allNums q l).length) : (allNums q l)[i] = part q l i q := by
  obtain ⟨_, h1, h2⟩ := all_facts q hq l
  have hd := Nat.div_add_mod (8 * l.length) q
  have hr := Nat.mod_lt (8 * l.length) hq
  have hl : (allNums q l).length = 8 * l.length / q + if 8 * l.length % q = 0 then 0 else 1 := by
    unfold allNums; rw [List.length_append, nums_length]; split <;> simp
  unfold part tot
  by_cases hi : i < 8 * l.length / q
  · have e1 : (allNums q l)[i] = num q l i := by
      have : i < (nums q l (8 * l.length / q)).length := by rw [nums_length]; exact hi
      simp only [allNums, List.getElem_append_left this]
      simp [nums]
    rw [e1]
    unfold num
    have hm : q * (i + 1) ≤ 8 * l.length := Nat.le_trans (Nat.mul_le_mul_left q hi) (by omega)
    generalize (allNums q l).length = M at h1 h2 ⊢
    have e2 : q * M - (i * q + q) = (8 * l.length - q * (i + 1)) + (q * M - 8 * l.length) := by rw [Nat.mul_comm i q]; rw [Nat.mul_add] at *; omega
    rw [e2, Nat.pow_add, Nat.mul_div_mul_right _ _ (Nat.two_pow_pos _)]
  · have hne : 8 * l.length % q ≠ 0 := by intro e; rw [hl, if_pos e] at h; omega
    rw [if_neg hne] at hl
    have hi' : i = 8 * l.length / q := by omega
    have e1 : (allNums q l)[i] = val l * 2 ^ (q - 8 * l.length % q) % 2 ^ q := by
      subst hi'
      simp only [allNums, if_neg hne]
      rw [List.getElem_append_right (by rw [nums_length]; exact Nat.le_refl _)]
      simp [nums_length]
    rw [e1, hl, hi']
    generalize 8 * l.length / q = d at *
    have e3 : q * (d + 1) - (d * q + q) = 0 := by rw [Nat.mul_comm d q, Nat.mul_add]; omega
    have e4 : q * (d + 1) - 8 * l.length = q - 8 * l.length % q := by rw [Nat.mul_add]; omega
    rw [e3, e4, Nat.pow_zero, Nat.div_one]

theorem part_lt (q : Nat) (l : List UInt8) (i j : Nat) : part q l i j < 2 ^ j := Nat.mod_lt _ (Nat.two_pow_pos j)
theorem all_len (q : Nat) (hq : 0 < q) (l : List UInt8) : (allNums q l).length = (8 * l.length + q - 1) / q := by
  obtain ⟨_, h1, h2⟩ := all_facts q hq l
  refine (Nat.div_eq_of_lt_le ?_ ?_).symm
  · rw [Nat.mul_comm]; omega
  · rw [show ((allNums q l).length + 1) * q = q * (allNums q l).length + q by rw [Nat.add_mul, Nat.one_mul, Nat.mul_comm]]; omega
end Go.Proofs.Ytaaiikjjfleooaa
