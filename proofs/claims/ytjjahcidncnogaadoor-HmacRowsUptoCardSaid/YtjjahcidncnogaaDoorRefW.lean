/- Plain: a block's words, as the reference reckons them, are those of sha's spread. -/
import Derived.Test.YtjjahcidncnogaaDoorRefK
import Derived.Laws.BitsAllLaws
namespace Go.Proofs.YtjjahcidncnogaaDoor
open Go.RowKit Go.Lib

/-- Word t of a block. -/
def wordI (B : List Int) (t : Nat) : Int := B.getD (4 * t) 0 * 16777216 + B.getD (4 * t + 1) 0 * 65536 + B.getD (4 * t + 2) 0 * 256 + B.getD (4 * t + 3) 0
def foldW (B : List Int) : Nat → Nat → List Int → List Int
  | 0, _, L => L
  | n + 1, t, L => foldW B n (t + 1) (L.set t (wordI B t))
theorem or_add (a b : Int) (i : Nat) (hi : i ≤ 32) (ha : 0 ≤ a) (ha2 : a < 4294967296) (hm : a % 2 ^ i = 0) (hb : 0 ≤ b) (hb2 : b < 2 ^ i) : bits .or .u32 a b = a + b := by
  obtain ⟨m, rfl⟩ : ∃ m : Nat, a = m := ⟨a.toNat, by omega⟩
  obtain ⟨n, rfl⟩ : ∃ n : Nat, b = n := ⟨b.toNat, by omega⟩
  have hm2 : m % 2 ^ i = 0 := by exact_mod_cast hm
  have hn2 : n < 2 ^ i := by exact_mod_cast hb2
  have hp : 2 ^ i ≤ 2 ^ 32 := Nat.pow_le_pow_right (by decide) hi
  have h32 : (2 : Nat) ^ 32 = 4294967296 := by decide
  rw [u32_or_nat m n (by omega) (by omega), nat_join i m n hm2 hn2]
  omega
theorem or8 (a b : Int) (ha : 0 ≤ a) (ha2 : a < 16777216) (hb : 0 ≤ b) (hb2 : b < 256) : bits .or .u32 (w32 (a * 256)) b = a * 256 + b := by
  have e : w32 (a * 256) = a * 256 := by unfold w32; omega
  rw [e, or_add _ _ 8 (by decide) (by omega) (by omega) (by omega) hb (by omega)]
theorem foldA_cons (x : Int) (t : List Int) (i : Nat) (L : List Int) : foldA (x :: t) i L = foldA t (i + 1) (stepA L i x) := rfl
theorem foldA_words (B : List Int) (hB : B.length = 64) (h8 : ∀ x ∈ B, 0 ≤ x ∧ x < 256) : ∀ (n t : Nat), n + t = 16 → ∀ L : List Int, L.length = 64 → (∀ j, t ≤ j → L.getD j 0 = 0) → foldA (B.drop (4 * t)) (4 * t) L = foldW B n t L := by
  intro n
  induction n with
  | zero =>
    intro t ht L _ _
    rw [List.drop_of_length_le (by omega)]
    rfl
  | succ n ih =>
    intro t ht L hL h0
    have hg : ∀ k, k < 64 → B.getD k 0 = B[k]! ∧ 0 ≤ B.getD k 0 ∧ B.getD k 0 < 256 := fun k hk => by
      have hk' : k < B.length := by omega
      rw [List.getD_eq_getElem?_getD, List.getElem?_eq_getElem hk']
      have := h8 B[k] (List.getElem_mem _)
      refine ⟨?_, this⟩
      rw [getElem!_pos B k hk']
      rfl
    have hd : ∀ k, k < 64 → B.drop k = B.getD k 0 :: B.drop (k + 1) := fun k hk => by
      have hk' : k < B.length := by omega
      rw [List.drop_eq_getElem_cons hk', List.getD_eq_getElem?_getD, List.getElem?_eq_getElem hk']
      rfl
    rw [hd (4 * t) (by omega), foldA_cons, hd (4 * t + 1) (by omega), foldA_cons, hd (4 * t + 1 + 1) (by omega), foldA_cons, hd (4 * t + 1 + 1 + 1) (by omega), foldA_cons]
    have hw : stepA (stepA (stepA (stepA L (4 * t) (B.getD (4 * t) 0)) (4 * t + 1) (B.getD (4 * t + 1) 0)) (4 * t + 1 + 1) (B.getD (4 * t + 1 + 1) 0)) (4 * t + 1 + 1 + 1) (B.getD (4 * t + 1 + 1 + 1) 0) = L.set t (wordI B t) := by
      obtain ⟨-, a0, a1⟩ := hg (4 * t) (by omega)
      obtain ⟨-, b0, b1⟩ := hg (4 * t + 1) (by omega)
      obtain ⟨-, c0, c1⟩ := hg (4 * t + 1 + 1) (by omega)
      obtain ⟨-, d0, d1⟩ := hg (4 * t + 1 + 1 + 1) (by omega)
      unfold wordI
      rw [show 4 * t + 2 = 4 * t + 1 + 1 from rfl, show 4 * t + 3 = 4 * t + 1 + 1 + 1 from rfl]
      generalize B.getD (4 * t) 0 = a at *
      generalize B.getD (4 * t + 1) 0 = b at *
      generalize B.getD (4 * t + 1 + 1) 0 = c at *
      generalize B.getD (4 * t + 1 + 1 + 1) 0 = d at *
      unfold stepA
      rw [show 4 * t / 4 = t from by omega, show (4 * t + 1) / 4 = t from by omega, show (4 * t + 1 + 1) / 4 = t from by omega, show (4 * t + 1 + 1 + 1) / 4 = t from by omega]
      have gs : ∀ (M : List Int) (v : Int), M.length = 64 → (M.set t v).getD t 0 = v := fun M v hM => by
        rw [List.getD_eq_getElem?_getD, List.getElem?_set_self (by omega)]; rfl
      have gs2 : ∀ v : Int, (L.set t v).getD t 0 = v := fun v => gs L v hL
      simp only [h0 t (Nat.le_refl _), gs2, List.set_set]
      rw [or8 0 a (by decide) (by decide) a0 a1, or8 _ b (by omega) (by omega) b0 b1, or8 _ c (by omega) (by omega) c0 c1, or8 _ d (by omega) (by omega) d0 d1]
      congr 1
      omega
    rw [hw, show 4 * t + 1 + 1 + 1 + 1 = 4 * (t + 1) from by omega]
    rw [ih (t + 1) (by omega) _ (by rw [List.length_set]; exact hL) (fun j hj => by
      rw [List.getD_eq_getElem?_getD, List.getElem?_set_ne (by omega), ← List.getD_eq_getElem?_getD]
      exact h0 j (by omega))]
    rfl
theorem zeros64_get (j : Nat) : zeros64.getD j 0 = 0 := by
  rw [List.getD_eq_getElem?_getD]
  unfold zeros64
  rw [List.getElem?_replicate]
  split <;> rfl
/-- What the rounds from t on make of the words. -/
def restW (B : List Int) (t : Nat) (L : List Int) : List Int := if t < 16 then foldB 48 16 (foldW B (16 - t) t L) else foldB (64 - t) t L
theorem restW_start (B : List Int) (hB : B.length = 64) (h8 : ∀ x ∈ B, 0 ≤ x ∧ x < 256) : restW B 0 zeros64 = spreadI B := by
  unfold restW spreadI
  have h := foldA_words B hB h8 16 0 rfl zeros64 rfl (fun j _ => zeros64_get j)
  rw [if_pos (by decide), ← h]
  rfl
theorem restW_low (B : List Int) (t : Nat) (ht : t < 16) (L : List Int) : restW B t L = restW B (t + 1) (L.set t (wordI B t)) := by
  unfold restW
  rw [if_pos ht, show 16 - t = (16 - (t + 1)) + 1 from by omega]
  show foldB 48 16 (foldW B (16 - (t + 1)) (t + 1) (L.set t (wordI B t))) = _
  split
  · rfl
  · obtain rfl : t = 15 := by omega
    rfl
/-- The reference's word t of those ahead. -/
def wordR (L : List Int) (t : Nat) : Int := w32 (w32 (w32 (L.getD (t - 16) 0 + sig0 (L.getD (t - 15) 0)) + L.getD (t - 7) 0) + sig1 (L.getD (t - 2) 0))
theorem restW_high (B : List Int) (t : Nat) (ht : 16 ≤ t) (h64 : t < 64) (L : List Int) : restW B t L = restW B (t + 1) (L.set t (wordR L t)) := by
  unfold restW
  rw [if_neg (by omega), if_neg (by omega), show 64 - t = (64 - (t + 1)) + 1 from by omega]
  show foldB (64 - (t + 1)) (t + 1) (stepB L t) = _
  congr 1
  unfold stepB wordR w32
  congr 1
  omega
theorem restW_end (B : List Int) (L : List Int) : restW B 64 L = L := by
  unfold restW
  rw [if_neg (by decide)]
  rfl
theorem wordI_range (B : List Int) (t : Nat) (h8 : ∀ x ∈ B, 0 ≤ x ∧ x < 256) : 0 ≤ wordI B t ∧ wordI B t < 4294967296 := by
  have hg : ∀ k, 0 ≤ B.getD k 0 ∧ B.getD k 0 < 256 := fun k => by
    rw [List.getD_eq_getElem?_getD]
    rcases Nat.lt_or_ge k B.length with h | h
    · rw [List.getElem?_eq_getElem h]; exact h8 _ (List.getElem_mem _)
    · rw [List.getElem?_eq_none h]; exact ⟨by decide, by decide⟩
  have h0 := hg (4 * t)
  have h1 := hg (4 * t + 1)
  have h2 := hg (4 * t + 2)
  have h3 := hg (4 * t + 3)
  unfold wordI
  omega
theorem wordR_range (L : List Int) (t : Nat) : 0 ≤ wordR L t ∧ wordR L t < 4294967296 := w32_range _
theorem or4 (a b c d : Int) (a0 : 0 ≤ a) (a1 : a < 256) (b0 : 0 ≤ b) (b1 : b < 256) (c0 : 0 ≤ c) (c1 : c < 256) (d0 : 0 ≤ d) (d1 : d < 256) :
    bits .or .u32 (bits .or .u32 (bits .or .u32 (w32 (a * 16777216)) (w32 (b * 65536))) (w32 (c * 256))) d = a * 16777216 + b * 65536 + c * 256 + d := by
  have e1 : w32 (a * 16777216) = a * 16777216 := by unfold w32; omega
  have e2 : w32 (b * 65536) = b * 65536 := by unfold w32; omega
  have e3 : w32 (c * 256) = c * 256 := by unfold w32; omega
  have o1 : bits .or .u32 (a * 16777216) (b * 65536) = a * 16777216 + b * 65536 := or_add _ _ 24 (by decide) (by omega) (by omega) (by omega) (by omega) (by omega)
  have o2 : bits .or .u32 (a * 16777216 + b * 65536) (c * 256) = a * 16777216 + b * 65536 + c * 256 := or_add _ _ 16 (by decide) (by omega) (by omega) (by omega) (by omega) (by omega)
  have o3 : bits .or .u32 (a * 16777216 + b * 65536 + c * 256) d = a * 16777216 + b * 65536 + c * 256 + d := or_add _ _ 8 (by decide) (by omega) (by omega) (by omega) (by omega) (by omega)
  rw [e1, e2, e3, o1, o2, o3]
end Go.Proofs.YtjjahcidncnogaaDoor
