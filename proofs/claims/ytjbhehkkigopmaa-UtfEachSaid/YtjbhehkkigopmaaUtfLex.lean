/- Plain: the order of right texts by the rank of their bytes is that of their units. -/
import Derived.Test.YtjbhehkkigopmaaUtfRunesP
import Derived.Test.YtjbhehkkigopmaaUtfOrd
namespace Go.Proofs.Ytjbhehkkigopmaa
open Go.Lib

/-- Rows of numbers, one after the other. -/
def lexN : List Nat → List Nat → Int
  | [], [] => 0
  | [], _ :: _ => -1
  | _ :: _, [] => 1
  | a :: s, b :: t => if a < b then -1 else if b < a then 1 else lexN s t

theorem cmpR_lex : ∀ a b : List UInt8, cmpR a b = lexN (a.map rank) (b.map rank)
  | [], [] => rfl
  | [], _ :: _ => rfl
  | _ :: _, [] => rfl
  | a :: s, b :: t => by
    have ih := cmpR_lex s t
    simp only [cmpR, lexN, List.map_cons]
    by_cases e : a = b
    · subst e
      rw [if_pos rfl, if_neg (by omega), if_neg (by omega)]
      exact ih
    · rw [if_neg e]
      have hne : rank a ≠ rank b := fun h => e (rank_inj h)
      by_cases h : rank a < rank b
      · rw [if_pos h, if_pos h]
      · rw [if_neg h, if_neg h, if_pos (by omega)]
theorem lexN_same (u a b : List Nat) : lexN (u ++ a) (u ++ b) = lexN a b := by
  induction u with
  | nil => rfl
  | cons x t ih =>
    simp only [List.cons_append, lexN]
    rw [if_neg (by omega), if_neg (by omega)]
    exact ih

/-- Where a character stands in the order of units. -/
def ukey (r : Nat) : Nat := if r < 57344 then r else if r < 65536 then r + 1114112 else r

theorem lex_units (r q : Nat) (hr : scalar r) (hq : scalar q) (h : r ≠ q) (s t : List Nat) : lexN (unitsOf r ++ s) (unitsOf q ++ t) = if ukey r < ukey q then -1 else 1 := by
  unfold scalar at hr hq
  unfold unitsOf ukey
  by_cases h1 : r < 65536
  · by_cases h2 : q < 65536
    · rw [if_pos h1, if_pos h2]
      simp only [List.cons_append, lexN]
      (repeat' split) <;> omega
    · rw [if_pos h1, if_neg h2]
      simp only [List.cons_append, lexN]
      (repeat' split) <;> omega
  · by_cases h2 : q < 65536
    · rw [if_neg h1, if_pos h2]
      simp only [List.cons_append, lexN]
      (repeat' split) <;> omega
    · rw [if_neg h1, if_neg h2]
      simp only [List.cons_append, lexN]
      (repeat' split) <;> omega

/-- The ranks of a character's bytes. -/
def ranksN (r : Nat) : List Nat :=
  if r < 128 then [r] else if r < 2048 then [192 + r / 64, 128 + r % 64] else if r < 57344 then [224 + r / 4096, 128 + r / 64 % 64, 128 + r % 64]
  else if r < 65536 then [240 + r / 4096, 128 + r / 64 % 64, 128 + r % 64] else [238 + r / 262144, 128 + r / 4096 % 64, 128 + r / 64 % 64, 128 + r % 64]

theorem rank_u8 (k : Nat) (h : k < 256) : rank k.toUInt8 = if 240 ≤ k then k - 2 else if 238 ≤ k then k + 16 else k := by
  unfold rank
  rw [u8_toNat k h]

theorem ranks_enc (r : Nat) (hr : scalar r) : (encodeRune r).map rank = ranksN r := by
  unfold scalar at hr
  unfold ranksN
  by_cases h1 : r < 128
  · rw [if_pos h1, encodeRune, encodeRuneZ_one (by omega) (by omega)]
    simp only [List.map_cons, List.map_nil, Int.toNat_natCast]
    rw [rank_u8 _ (by omega), if_neg (by omega), if_neg (by omega)]
  rw [if_neg h1]
  by_cases h2 : r < 2048
  · rw [if_pos h2, encodeRune, encodeRuneZ_two (by omega) (by omega)]
    have e1 : (192 + (r : Int) / 64).toNat = 192 + r / 64 := by omega
    have e2 : (128 + (r : Int) % 64).toNat = 128 + r % 64 := by omega
    simp only [List.map_cons, List.map_nil, e1, e2]
    rw [rank_u8 _ (by omega), if_neg (by omega), if_neg (by omega), rank_u8 _ (by omega), if_neg (by omega), if_neg (by omega)]
  rw [if_neg h2]
  by_cases h3 : r < 65536
  · rw [encodeRune, encodeRuneZ_three (by omega)]
    have e1 : (224 + (r : Int) / 4096).toNat = 224 + r / 4096 := by omega
    have e2 : (128 + (r : Int) / 64 % 64).toNat = 128 + r / 64 % 64 := by omega
    have e3 : (128 + (r : Int) % 64).toNat = 128 + r % 64 := by omega
    simp only [List.map_cons, List.map_nil, e1, e2, e3]
    rw [rank_u8 (128 + r / 64 % 64) (by omega), if_neg (by omega), if_neg (by omega), rank_u8 (128 + r % 64) (by omega), if_neg (by omega), if_neg (by omega), rank_u8 _ (by omega)]
    by_cases h4 : r < 57344
    · rw [if_pos h4, if_neg (by omega), if_neg (by omega)]
    · rw [if_neg h4, if_pos h3, if_neg (by omega), if_pos (by omega)]
      congr 1
      omega
  · rw [if_neg (by omega), if_neg h3, encodeRune, encodeRuneZ_four (by omega) (by omega)]
    have e1 : (240 + (r : Int) / 262144).toNat = 240 + r / 262144 := by omega
    have e2 : (128 + (r : Int) / 4096 % 64).toNat = 128 + r / 4096 % 64 := by omega
    have e3 : (128 + (r : Int) / 64 % 64).toNat = 128 + r / 64 % 64 := by omega
    have e4 : (128 + (r : Int) % 64).toNat = 128 + r % 64 := by omega
    simp only [List.map_cons, List.map_nil, e1, e2, e3, e4]
    rw [rank_u8 (128 + r / 4096 % 64) (by omega), if_neg (by omega), if_neg (by omega), rank_u8 (128 + r / 64 % 64) (by omega), if_neg (by omega), if_neg (by omega), rank_u8 (128 + r % 64) (by omega), if_neg (by omega), if_neg (by omega), rank_u8 _ (by omega), if_pos (by omega)]
    congr 1
    omega

set_option maxHeartbeats 4000000 in
theorem lex_ranks (r q : Nat) (hr : scalar r) (hq : scalar q) (h : r ≠ q) (s t : List Nat) : lexN (ranksN r ++ s) (ranksN q ++ t) = if ukey r < ukey q then -1 else 1 := by
  unfold scalar at hr hq
  have kr : (r < 128 ∧ ranksN r = [r] ∧ ukey r = r) ∨ (128 ≤ r ∧ r < 2048 ∧ ranksN r = [192 + r / 64, 128 + r % 64] ∧ ukey r = r) ∨ (2048 ≤ r ∧ r < 57344 ∧ ranksN r = [224 + r / 4096, 128 + r / 64 % 64, 128 + r % 64] ∧ ukey r = r) ∨
      (57344 ≤ r ∧ r < 65536 ∧ ranksN r = [240 + r / 4096, 128 + r / 64 % 64, 128 + r % 64] ∧ ukey r = r + 1114112) ∨ (65536 ≤ r ∧ ranksN r = [238 + r / 262144, 128 + r / 4096 % 64, 128 + r / 64 % 64, 128 + r % 64] ∧ ukey r = r) := by
    unfold ranksN ukey
    (repeat' split) <;> simp <;> omega
  have kq : (q < 128 ∧ ranksN q = [q] ∧ ukey q = q) ∨ (128 ≤ q ∧ q < 2048 ∧ ranksN q = [192 + q / 64, 128 + q % 64] ∧ ukey q = q) ∨ (2048 ≤ q ∧ q < 57344 ∧ ranksN q = [224 + q / 4096, 128 + q / 64 % 64, 128 + q % 64] ∧ ukey q = q) ∨
      (57344 ≤ q ∧ q < 65536 ∧ ranksN q = [240 + q / 4096, 128 + q / 64 % 64, 128 + q % 64] ∧ ukey q = q + 1114112) ∨ (65536 ≤ q ∧ ranksN q = [238 + q / 262144, 128 + q / 4096 % 64, 128 + q / 64 % 64, 128 + q % 64] ∧ ukey q = q) := by
    unfold ranksN ukey
    (repeat' split) <;> simp <;> omega
  rcases kr with ⟨a1, e1, u1⟩ | ⟨a1, a2, e1, u1⟩ | ⟨a1, a2, e1, u1⟩ | ⟨a1, a2, e1, u1⟩ | ⟨a1, e1, u1⟩ <;>
  rcases kq with ⟨b1, e2, u2⟩ | ⟨b1, b2, e2, u2⟩ | ⟨b1, b2, e2, u2⟩ | ⟨b1, b2, e2, u2⟩ | ⟨b1, e2, u2⟩ <;>
  rw [e1, e2, u1, u2] <;> simp only [List.cons_append, List.nil_append, lexN] <;> (repeat' split) <;> omega

/-- A row that is forms, one behind the other. -/
inductive Forms : List UInt8 → Prop
  | nil : Forms []
  | cons (l : List UInt8) (r n : Nat) (hf : formAt l = .ok r n) (h : Forms (l.drop n)) : Forms l

def unitsL (l : List UInt8) : List Nat := (runesOf l 0).flatMap fun x => unitsOf x.1
theorem runes_shift (l : List UInt8) (i j : Nat) : (runesOf l i).map Prod.fst = (runesOf l j).map Prod.fst := by
  suffices H : ∀ f (l : List UInt8) i j, (runesF f l i).map Prod.fst = (runesF f l j).map Prod.fst from H _ _ _ _
  intro f
  induction f with
  | zero => intro l i j; rfl
  | succ f ih =>
    intro l i j
    unfold runesF
    cases hf : formAt l with
    | ok r n =>
      simp only [List.map_cons]
      rw [ih (l.drop n) (i + n) (j + n)]
    | byte k => rfl
    | cut => rfl
theorem flat_fst (xs : List (Nat × Nat)) : xs.flatMap (fun x => unitsOf x.1) = (xs.map Prod.fst).flatMap unitsOf := by
  rw [List.flatMap_map]
theorem unitsL_ok {l : List UInt8} {r n : Nat} (h : formAt l = .ok r n) : unitsL l = unitsOf r ++ unitsL (l.drop n) := by
  unfold unitsL
  rw [runesOf_ok h 0, List.flatMap_cons]
  congr 1
  rw [flat_fst, flat_fst, runes_shift (l.drop n) (0 + n) 0]
theorem unitsOf_ne (r : Nat) : unitsOf r ≠ [] := by
  unfold unitsOf
  split <;> simp

theorem cmp_units {a b : List UInt8} (ha : Forms a) (hb : Forms b) : cmpR a b = lexN (unitsL a) (unitsL b) := by
  induction ha generalizing b with
  | nil =>
    cases hb with
    | nil => rfl
    | cons _ r n hf h =>
      obtain ⟨h1, _, h3⟩ := form_pos hf
      rw [unitsL_ok hf]
      cases b with
      | nil => simp at h3; omega
      | cons y t =>
        have hu := unitsOf_ne r
        cases hu2 : unitsOf r with
        | nil => exact absurd hu2 hu
        | cons z v => rfl
  | cons a r n hf h ih =>
    obtain ⟨h1, _, h3⟩ := form_pos hf
    obtain ⟨hs, he, hl⟩ := form_enc hf
    cases hb with
    | nil =>
      rw [unitsL_ok hf]
      cases a with
      | nil => simp at h3; omega
      | cons y t =>
        have hu := unitsOf_ne r
        cases hu2 : unitsOf r with
        | nil => exact absurd hu2 hu
        | cons z v => rfl
    | cons _ q m hg h' =>
      obtain ⟨hs2, he2, hl2⟩ := form_enc hg
      rw [unitsL_ok hf, unitsL_ok hg]
      by_cases e : r = q
      · subst e
        obtain rfl : n = m := by rw [← hl, ← hl2]
        rw [lexN_same, cmpR_take a b n (by rw [he, he2])]
        exact ih h'
      · rw [lex_units r q hs hs2 e, cmpR_lex]
        have ea : a.map rank = ranksN r ++ (a.drop n).map rank := by
          rw [← ranks_enc r hs, ← he, ← List.map_append, List.take_append_drop]
        have eb : b.map rank = ranksN q ++ (b.drop m).map rank := by
          rw [← ranks_enc q hs2, ← he2, ← List.map_append, List.take_append_drop]
        rw [ea, eb, lex_ranks r q hs hs2 e]

theorem cmpR_anti : ∀ a b : List UInt8, cmpR b a = - cmpR a b
  | [], [] => rfl
  | [], _ :: _ => rfl
  | _ :: _, [] => rfl
  | a :: s, b :: t => by
    have ih := cmpR_anti s t
    simp only [cmpR]
    by_cases e : a = b
    · subst e; rw [if_pos rfl, if_pos rfl]; exact ih
    · have hne : rank a ≠ rank b := fun h => e (rank_inj h)
      rw [if_neg e, if_neg (fun h => e h.symm)]
      (repeat' split) <;> omega
theorem compareBytes_anti : ∀ a b : List UInt8, compareBytes b a = - compareBytes a b
  | [], [] => rfl
  | [], _ :: _ => rfl
  | _ :: _, [] => rfl
  | a :: s, b :: t => by
    have ih := compareBytes_anti s t
    simp only [compareBytes, UInt8.lt_iff_toNat_lt]
    (repeat' split) <;> omega
theorem cmpU_anti (rt : List UInt8 → Bool) (a b : List UInt8) : cmpU rt b a = - cmpU rt a b := by
  unfold cmpU
  by_cases e : a = b
  · subst e; simp
  · rw [if_neg e, if_neg (fun h => e h.symm)]
    cases rt a <;> cases rt b <;> simp [cmpR_anti a b, compareBytes_anti a b]
end Go.Proofs.Ytjbhehkkigopmaa
