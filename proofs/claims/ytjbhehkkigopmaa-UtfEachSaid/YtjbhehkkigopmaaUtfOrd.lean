/- Plain: the order of two texts: right ones stand ahead of others; two right ones by a rank of their bytes, two others by their bytes. -/
import Derived.Lib.Bytealg
namespace Go.Proofs.Ytjbhehkkigopmaa
open Go.Lib

/-- Where a byte stands in the order of units. -/
def rank (x : UInt8) : Nat := if 240 ≤ x.toNat then x.toNat - 2 else if 238 ≤ x.toNat then x.toNat + 16 else x.toNat
theorem rank_inj {x y : UInt8} (h : rank x = rank y) : x = y := by
  unfold rank at h
  apply UInt8.toNat_inj.1
  have := x.toNat_lt; have := y.toNat_lt
  split at h <;> split at h <;> (try split at h) <;> (try split at h) <;> omega

/-- Two rows held against each other by the rank of their bytes. -/
def cmpR : List UInt8 → List UInt8 → Int
  | [], [] => 0
  | [], _ :: _ => -1
  | _ :: _, [] => 1
  | a :: s, b :: t => if a = b then cmpR s t else if rank a < rank b then -1 else 1

theorem cmpR_one : ∀ a b, cmpR a b = -1 ∨ cmpR a b = 0 ∨ cmpR a b = 1
  | [], [] => by simp [cmpR]
  | [], _ :: _ => by simp [cmpR]
  | _ :: _, [] => by simp [cmpR]
  | a :: s, b :: t => by
    have := cmpR_one s t
    simp only [cmpR]
    split
    · exact this
    · split <;> simp

theorem cmpR_zero : ∀ a b, cmpR a b = 0 → a = b
  | [], [] => by simp
  | [], _ :: _ => by simp [cmpR]
  | _ :: _, [] => by simp [cmpR]
  | a :: s, b :: t => by
    simp only [cmpR]
    intro h
    split at h
    · rename_i e; rw [e, cmpR_zero s t h]
    · split at h <;> simp at h
theorem cmpR_self : ∀ a, cmpR a a = 0
  | [] => by simp [cmpR]
  | a :: s => by simp [cmpR, cmpR_self s]

theorem cmpR_trans : ∀ a b c, cmpR a b ≤ 0 → cmpR b c ≤ 0 → cmpR a c ≤ 0
  | [], b, [] => by simp [cmpR]
  | [], b, _ :: _ => by simp [cmpR]
  | a :: s, [], c => by simp [cmpR]
  | a :: s, b :: t, [] => by simp [cmpR]
  | a :: s, b :: t, c :: u => by
    simp only [cmpR]
    intro h1 h2
    have ih := cmpR_trans s t u
    by_cases e1 : a = b
    · subst e1
      by_cases e2 : a = c
      · subst e2; simp at h1 h2 ⊢; exact ih h1 h2
      · rw [if_neg e2] at h2 ⊢
        exact h2
    · rw [if_neg e1] at h1
      by_cases e2 : b = c
      · subst e2; rw [if_neg e1]; exact h1
      · rw [if_neg e2] at h2
        have l1 : rank a < rank b := by
          by_cases l : rank a < rank b
          · exact l
          · rw [if_neg l] at h1; omega
        have l2 : rank b < rank c := by
          by_cases l : rank b < rank c
          · exact l
          · rw [if_neg l] at h2; omega
        have e3 : a ≠ c := by intro e; subst e; omega
        rw [if_neg e3, if_pos (by omega)]
        omega

theorem compareBytes_one : ∀ a b, compareBytes a b = -1 ∨ compareBytes a b = 0 ∨ compareBytes a b = 1
  | [], [] => by simp [compareBytes]
  | [], _ :: _ => by simp [compareBytes]
  | _ :: _, [] => by simp [compareBytes]
  | a :: s, b :: t => by
    have := compareBytes_one s t
    simp only [compareBytes]
    split
    · simp
    · split
      · simp
      · exact this

theorem compareBytes_trans : ∀ a b c, compareBytes a b ≤ 0 → compareBytes b c ≤ 0 → compareBytes a c ≤ 0
  | [], b, [] => by simp [compareBytes]
  | [], b, _ :: _ => by simp [compareBytes]
  | a :: s, [], c => by simp [compareBytes]
  | a :: s, b :: t, [] => by simp [compareBytes]
  | a :: s, b :: t, c :: u => by
    have ih := compareBytes_trans s t u
    simp only [compareBytes, UInt8.lt_iff_toNat_lt]
    intro h1 h2
    by_cases x1 : a.toNat < b.toNat
    · by_cases x2 : b.toNat < c.toNat
      · rw [if_pos (by omega)]; omega
      · rw [if_neg x2] at h2
        by_cases x3 : c.toNat < b.toNat
        · rw [if_pos x3] at h2; omega
        · rw [if_pos (by omega)]; omega
    · rw [if_neg x1] at h1
      by_cases x3 : b.toNat < a.toNat
      · rw [if_pos x3] at h1; omega
      · rw [if_neg x3] at h1
        by_cases x2 : b.toNat < c.toNat
        · rw [if_pos (by omega)]; omega
        · rw [if_neg x2] at h2
          by_cases x4 : c.toNat < b.toNat
          · rw [if_pos x4] at h2; omega
          · rw [if_neg x4] at h2
            rw [if_neg (by omega), if_neg (by omega)]
            exact ih h1 h2

theorem compareBytes_zero : ∀ a b, compareBytes a b = 0 → a = b
  | [], [] => by simp
  | [], _ :: _ => by simp [compareBytes]
  | _ :: _, [] => by simp [compareBytes]
  | a :: s, b :: t => by
    simp only [compareBytes, UInt8.lt_iff_toNat_lt]
    intro h
    by_cases x1 : a.toNat < b.toNat
    · rw [if_pos x1] at h; simp at h
    · rw [if_neg x1] at h
      by_cases x3 : b.toNat < a.toNat
      · rw [if_pos x3] at h; simp at h
      · rw [if_neg x3] at h
        rw [compareBytes_zero s t h, UInt8.toNat_inj.1 (show a.toNat = b.toNat by omega)]

theorem compareBytes_self : ∀ a, compareBytes a a = 0
  | [] => by simp [compareBytes]
  | a :: s => by simp [compareBytes, compareBytes_self s]

/-- What the two rows share at their head plays no part. -/
theorem cmpR_take (a b : List UInt8) (k : Nat) (h : a.take k = b.take k) : cmpR a b = cmpR (a.drop k) (b.drop k) := by
  induction k generalizing a b with
  | zero => simp
  | succ k ih =>
    cases a with
    | nil => cases b with
      | nil => simp
      | cons y t => simp at h
    | cons x s => cases b with
      | nil => simp at h
      | cons y t =>
        simp only [List.take_succ_cons, List.cons.injEq] at h
        obtain ⟨rfl, h⟩ := h
        simp only [cmpR, List.drop_succ_cons, if_true]
        exact ih s t h

theorem cmpR_end (a b : List UInt8) (h : a.take (min a.length b.length) = b.take (min a.length b.length)) : compareBytes a b = cmpR a b := by
  induction a generalizing b with
  | nil => cases b <;> simp [cmpR, compareBytes]
  | cons x s ih =>
    cases b with
    | nil => simp [cmpR, compareBytes]
    | cons y t =>
      simp only [List.length_cons, Nat.succ_min_succ, List.take_succ_cons, List.cons.injEq] at h
      obtain ⟨rfl, h⟩ := h
      simp only [cmpR, compareBytes, if_true, UInt8.lt_irrefl, if_false]
      exact ih t h

/-- At the first place at which they part. -/
theorem cmpR_at (a b : List UInt8) (k : Nat) (h : a.take k = b.take k) (ha : k < a.length) (hb : k < b.length) (hn : a[k] ≠ b[k]) : cmpR a b = if rank a[k] < rank b[k] then -1 else 1 := by
  rw [cmpR_take a b k h, List.drop_eq_getElem_cons ha, List.drop_eq_getElem_cons hb]
  simp only [cmpR]
  rw [if_neg hn]

/-- The whole order, by a row's being right. -/
def cmpU (rt : List UInt8 → Bool) (a b : List UInt8) : Int :=
  if a = b then 0 else if rt a = true then (if rt b = true then cmpR a b else -1) else (if rt b = true then 1 else compareBytes a b)

theorem cmpU_trans (rt : List UInt8 → Bool) (a b c : List UInt8) (h1 : cmpU rt a b ≤ 0) (h2 : cmpU rt b c ≤ 0) : cmpU rt a c ≤ 0 := by
  unfold cmpU at *
  by_cases e1 : a = b
  · subst e1; exact h2
  · by_cases e2 : b = c
    · subst e2; rw [if_neg e1] at h1; rw [if_neg e1]; exact h1
    · by_cases e3 : a = c
      · rw [if_pos e3]; omega
      · rw [if_neg e1] at h1
        rw [if_neg e2] at h2
        rw [if_neg e3]
        cases ra : rt a <;> cases rb : rt b <;> cases rc : rt c <;> simp [ra, rb, rc] at h1 h2 ⊢
        · exact compareBytes_trans a b c h1 h2
        · exact cmpR_trans a b c h1 h2
end Go.Proofs.Ytjbhehkkigopmaa
