/- Plain: the bytes of letters, bit by bit, as the document's answer sets them. -/
import Derived.Test.YtaaiikjjfleooaaReadMath
namespace Go.Proofs.Ytaaiikjjfleooaa

theorem dig_at (B : Nat) : ∀ X : List Nat, (∀ x ∈ X, x < B) → ∀ i, (hi : i < X.length) → X[i] = dval B X / B ^ (X.length - 1 - i) % B := by
  intro X
  induction X with
  | nil => intro _ i hi; simp at hi
  | cons d t ih =>
    intro h i hi
    have hd : d < B := h d List.mem_cons_self
    have ht : ∀ x ∈ t, x < B := fun x hx => h x (List.mem_cons_of_mem _ hx)
    have hl := dval_lt B t ht
    have hB : 0 < B := by omega
    cases i with
    | zero =>
      simp only [List.getElem_cons_zero, List.length_cons, dval]
      rw [show t.length + 1 - 1 - 0 = t.length by omega, Nat.mul_comm, Nat.mul_add_div (Nat.pow_pos hB), Nat.div_eq_of_lt hl, Nat.add_zero, Nat.mod_eq_of_lt hd]
    | succ i =>
      have hi' : i < t.length := by simpa using hi
      simp only [List.getElem_cons_succ, List.length_cons, dval]
      rw [ih ht i hi', show t.length + 1 - 1 - (i + 1) = t.length - 1 - i by omega]
      have e : d * B ^ t.length = B ^ (t.length - 1 - i) * (B * (d * B ^ i)) := by
        rw [show t.length = (t.length - 1 - i) + 1 + i by omega, Nat.pow_add, Nat.pow_add, Nat.pow_one, show t.length - 1 - i + 1 + i - 1 - i = t.length - 1 - i by omega]
        generalize B ^ (t.length - 1 - i) = P
        generalize B ^ i = R
        rw [Nat.mul_left_comm, Nat.mul_assoc P]
      rw [e, Nat.mul_add_div (Nat.pow_pos hB), Nat.mul_add_mod]

theorem bit_of (V Q q i j : Nat) (h : (i + 1) * q ≤ Q) (hj : j < q) : V / 2 ^ (Q - (i + 1) * q) % 2 ^ q / 2 ^ (q - 1 - j) % 2 = V / 2 ^ (Q - (i * q + j) - 1) % 2 := by
  have h1 : (i + 1) * q = i * q + q := by rw [Nat.add_mul, Nat.one_mul]
  have e : (2 : Nat) ^ q = 2 ^ (q - 1 - j) * 2 ^ (j + 1) := by rw [← Nat.pow_add]; congr 1; omega
  rw [e, Nat.mod_mul_right_div_self, Nat.mod_mod_of_dvd _ ⟨2 ^ j, by rw [Nat.pow_succ, Nat.mul_comm]⟩, Nat.div_div_eq_div_mul, ← Nat.pow_add]
  congr 3
  rw [h1] at h ⊢
  generalize i * q = iq at *
  omega

theorem val_set (L : List UInt8) : ∀ p (b : UInt8), (hp : p < L.length) → val (L.set p b) + L[p].toNat * 2 ^ (8 * (L.length - 1 - p)) = val L + b.toNat * 2 ^ (8 * (L.length - 1 - p)) := by
  refine snoc_ind (P := fun L => ∀ p (b : UInt8), (hp : p < L.length) → val (L.set p b) + L[p].toNat * 2 ^ (8 * (L.length - 1 - p)) = val L + b.toNat * 2 ^ (8 * (L.length - 1 - p))) (fun p b h => by simp at h) (fun l c ih p b hp => ?_) L
  simp only [List.length_append, List.length_singleton] at hp ⊢
  by_cases h : p < l.length
  · have e := ih p b h
    rw [List.set_append_left _ _ h, val_snoc, val_snoc, List.getElem_append_left h, show l.length + 1 - 1 - p = (l.length - 1 - p) + 1 by omega, Nat.mul_add, Nat.pow_add]
    generalize 2 ^ (8 * (l.length - 1 - p)) = P at *
    have e2 : (l[p].toNat) * (P * 2 ^ (8 * 1)) = 256 * (l[p].toNat * P) := by rw [show (2 : Nat) ^ (8 * 1) = 256 from rfl, ← Nat.mul_assoc, Nat.mul_comm]
    have e3 : (b.toNat) * (P * 2 ^ (8 * 1)) = 256 * (b.toNat * P) := by rw [show (2 : Nat) ^ (8 * 1) = 256 from rfl, ← Nat.mul_assoc, Nat.mul_comm]
    rw [e2, e3]
    omega
  · obtain rfl : p = l.length := by omega
    rw [show l.length + 1 - 1 - l.length = 0 by omega]
    simp only [Nat.mul_zero, Nat.pow_zero, Nat.mul_one, List.getElem_append_right (Nat.le_refl _), Nat.sub_self, List.getElem_cons_zero]
    rw [List.set_append_right _ _ (Nat.le_refl _), Nat.sub_self, List.set_cons_zero, val_snoc, val_snoc]
    omega

/-- The first at bits of the number V of Q bits stand in n bytes. -/
def Placed (V Q n at' : Nat) (L : List UInt8) : Prop := L.length = n ∧ val L * 2 ^ (Q - 8 * n) = V / 2 ^ (Q - at') * 2 ^ (Q - at')

theorem val_zeros (n : Nat) : val (List.replicate n 0) = 0 := by
  induction n with
  | zero => rfl
  | succ n ih => rw [List.replicate_succ', val_snoc, ih]; rfl
theorem placed_start (V Q n : Nat) (h : V < 2 ^ Q) : Placed V Q n 0 (List.replicate n 0) := by
  refine ⟨List.length_replicate, ?_⟩
  rw [val_zeros, Nat.sub_zero, Nat.div_eq_of_lt h, Nat.zero_mul, Nat.zero_mul]
theorem half_step (V Q at' : Nat) (h : at' < Q) : V / 2 ^ (Q - at') * 2 ^ (Q - at') = V / 2 ^ (Q - at' - 1) / 2 * 2 * 2 ^ (Q - at' - 1) := by
  have e : (2 : Nat) ^ (Q - at') = 2 ^ (Q - at' - 1) * 2 := by rw [← Nat.pow_succ]; congr 1; omega
  rw [e, ← Nat.div_div_eq_div_mul, Nat.mul_comm (2 ^ (Q - at' - 1)) 2, ← Nat.mul_assoc]
theorem placed_zero {V Q n at' : Nat} {L : List UInt8} (h : Placed V Q n at' L) (hq : at' < Q) (hb : V / 2 ^ (Q - at' - 1) % 2 = 0) : Placed V Q n (at' + 1) L := by
  refine ⟨h.1, ?_⟩
  rw [h.2, half_step V Q at' hq, show Q - (at' + 1) = Q - at' - 1 by omega]
  congr 1
  omega
theorem placed_byte {V Q n at' : Nat} {L : List UInt8} (h : Placed V Q n at' L) (hQ : 8 * n ≤ Q) (hp : at' / 8 < L.length) : L[at' / 8].toNat + 2 ^ (7 - at' % 8) < 256 := by
  obtain ⟨rfl, h2⟩ := h
  have hb := byte_at L (at' / 8) hp
  have hx : L.getD (at' / 8) 0 = L[at' / 8] := by rw [List.getD_eq_getElem?_getD, List.getElem?_eq_getElem hp, Option.getD_some]
  rw [hx] at hb
  have hv : val L = V / 2 ^ (Q - at') * 2 ^ (8 * L.length - at') := by
    have e : Q - at' = (8 * L.length - at') + (Q - 8 * L.length) := by omega
    rw [show (2 : Nat) ^ (Q - at') = 2 ^ (8 * L.length - at') * 2 ^ (Q - 8 * L.length) by rw [← Nat.pow_add]; congr 1, ← Nat.mul_assoc] at h2
    rw [show (2 : Nat) ^ (Q - at') = 2 ^ (8 * L.length - at') * 2 ^ (Q - 8 * L.length) by rw [← Nat.pow_add]; congr 1]
    exact Nat.eq_of_mul_eq_mul_right (Nat.two_pow_pos _) h2
  rw [hv] at hb
  generalize V / 2 ^ (Q - at') = T at *
  have e : 8 * L.length - at' = (8 - at' % 8) + 8 * (L.length - 1 - at' / 8) := by omega
  rw [e, Nat.pow_add, ← Nat.mul_assoc, Nat.mul_div_cancel _ (Nat.two_pow_pos _)] at hb
  rw [← hb]
  have hr : at' % 8 = 0 ∨ at' % 8 = 1 ∨ at' % 8 = 2 ∨ at' % 8 = 3 ∨ at' % 8 = 4 ∨ at' % 8 = 5 ∨ at' % 8 = 6 ∨ at' % 8 = 7 := by omega
  rcases hr with hr | hr | hr | hr | hr | hr | hr | hr <;> rw [hr] <;> simp <;> omega
theorem placed_one {V Q n at' : Nat} {L : List UInt8} (h : Placed V Q n at' L) (hQ : 8 * n ≤ Q) (hp : at' / 8 < L.length) (hb : V / 2 ^ (Q - at' - 1) % 2 = 1) (b : UInt8) (hbb : b.toNat = L[at' / 8].toNat + 2 ^ (7 - at' % 8)) :
    Placed V Q n (at' + 1) (L.set (at' / 8) b) := by
  obtain ⟨rfl, h2⟩ := h
  refine ⟨List.length_set, ?_⟩
  have hs := val_set L (at' / 8) b hp
  rw [hbb, Nat.add_mul, ← Nat.pow_add, show 7 - at' % 8 + 8 * (L.length - 1 - at' / 8) = 8 * L.length - 1 - at' by omega] at hs
  have hs2 : val (L.set (at' / 8) b) = val L + 2 ^ (8 * L.length - 1 - at') := by omega
  have hq : at' < Q := by omega
  rw [hs2, Nat.add_mul, h2, half_step V Q at' hq, show Q - (at' + 1) = Q - at' - 1 by omega, ← Nat.pow_add, show 8 * L.length - 1 - at' + (Q - 8 * L.length) = Q - at' - 1 by omega]
  generalize 2 ^ (Q - at' - 1) = P at *
  generalize V / P = U at *
  have e : U = U / 2 * 2 + 1 := by omega
  conv => rhs; rw [e]
  rw [Nat.add_mul, Nat.one_mul]
theorem placed_end {V Q n : Nat} {L : List UInt8} (h : Placed V Q n Q L) : V % 2 ^ (Q - 8 * n) = 0 ∧ L = bytesOf n (V / 2 ^ (Q - 8 * n)) := by
  obtain ⟨rfl, h2⟩ := h
  rw [Nat.sub_self, Nat.pow_zero, Nat.div_one, Nat.mul_one] at h2
  rw [← h2, Nat.mul_mod_left, Nat.mul_div_cancel _ (Nat.two_pow_pos _), bytesOf_val]
  exact ⟨rfl, rfl⟩
theorem placed_over {V Q n at' : Nat} (hq : at' < Q) (hn : 8 * n ≤ at') (hb : V / 2 ^ (Q - at' - 1) % 2 = 1) : ¬ V % 2 ^ (Q - 8 * n) = 0 := by
  intro h
  have e : Q - 8 * n = (Q - at' - 1) + 1 + (at' - 8 * n) := by omega
  have hd := Nat.div_add_mod V (2 ^ (Q - 8 * n))
  rw [h, Nat.add_zero, e, Nat.pow_add, Nat.pow_succ, Nat.mul_assoc, Nat.mul_assoc] at hd
  rw [← hd, Nat.mul_div_cancel_left _ (Nat.two_pow_pos _), Nat.mul_mod_right] at hb
  cases hb
end Go.Proofs.Ytaaiikjjfleooaa
