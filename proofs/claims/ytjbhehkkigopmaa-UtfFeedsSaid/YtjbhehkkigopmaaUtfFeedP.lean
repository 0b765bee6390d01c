/- Plain: what a feeder keeps of the bytes that came. -/
import Derived.Test.YtjbhehkkigopmaaUtfForm
namespace Go.Proofs.Ytjbhehkkigopmaa

/-- The beginning of a form that is not whole, and the cursor, behind bytes; none: one was wrong. -/
def feedS : List UInt8 → List UInt8 → Cur → Option (List UInt8 × Cur)
  | [], tl, c => some (tl, c)
  | x :: t, tl, c => match stepC c x.toNat with
    | none => none
    | some d => if d.left = 0 then feedS t [] d else feedS t (tl ++ [x]) d

theorem feedS_wrong (x : UInt8) (t tl : List UInt8) (c : Cur) (h : stepC c x.toNat = none) : feedS (x :: t) tl c = none := by simp only [feedS, h]
theorem feedS_whole (x : UInt8) (t tl : List UInt8) (c d : Cur) (h : stepC c x.toNat = some d) (h0 : d.left = 0) : feedS (x :: t) tl c = feedS t [] d := by simp only [feedS, h, if_pos h0]
theorem feedS_part (x : UInt8) (t tl : List UInt8) (c d : Cur) (h : stepC c x.toNat = some d) (h0 : ¬ d.left = 0) : feedS (x :: t) tl c = feedS t (tl ++ [x]) d := by simp only [feedS, h, if_neg h0]

theorem feedS_append (a b tl : List UInt8) (c : Cur) : feedS (a ++ b) tl c = match feedS a tl c with | none => none | some (t', c') => feedS b t' c' := by
  induction a generalizing tl c with
  | nil => rfl
  | cons x t ih =>
    rw [List.cons_append]
    cases hs : stepC c x.toNat with
    | none => rw [feedS_wrong _ _ _ _ hs, feedS_wrong _ _ _ _ hs]
    | some d =>
      by_cases h0 : d.left = 0
      · rw [feedS_whole _ _ _ _ _ hs h0, feedS_whole _ _ _ _ _ hs h0]; exact ih _ _
      · rw [feedS_part _ _ _ _ _ hs h0, feedS_part _ _ _ _ _ hs h0]; exact ih _ _

/-- feedS and chk go wrong at once, and stand alike. -/
theorem feedS_chk (l tl : List UInt8) (c : Cur) (i : Nat) : (feedS l tl c = none ↔ (chk l i c).2.1 = true) ∧ ∀ t' c', feedS l tl c = some (t', c') → chk l i c = (i + l.length, false, c') := by
  induction l generalizing tl c i with
  | nil =>
    simp only [feedS, chk]
    refine ⟨by simp, fun t' c' h => ?_⟩
    simp only [Option.some.injEq, Prod.mk.injEq] at h
    rw [h.2]
    simp
  | cons x t ih =>
    cases hs : stepC c x.toNat with
    | none =>
      rw [feedS_wrong _ _ _ _ hs, chk_wrong _ _ _ _ hs]
      exact ⟨by simp, fun t' c' h => by cases h⟩
    | some d =>
      rw [chk_on _ _ _ _ _ hs]
      have e : i + (x :: t).length = i + 1 + t.length := by simp only [List.length_cons]; omega
      rw [e]
      by_cases h0 : d.left = 0
      · rw [feedS_whole _ _ _ _ _ hs h0]; exact ih _ _ _
      · rw [feedS_part _ _ _ _ _ hs h0]; exact ih _ _ _

/-- What is kept is the beginning of a form, and the cursor behind it. -/
def Kept (tl : List UInt8) (c : Cur) : Prop := (tl = [] ∧ c.left = 0) ∨ (tl ≠ [] ∧ 0 < c.left ∧ c.left + tl.length ≤ 4 ∧ chk tl 0 cur0 = (tl.length, false, c))
theorem kept_zero : Kept [] cur0 := .inl ⟨rfl, rfl⟩
theorem chk_snoc (l : List UInt8) (x : UInt8) (i : Nat) (c d e : Cur) (h : chk l i c = (i + l.length, false, d)) (hs : stepC d x.toNat = some e) : chk (l ++ [x]) i c = (i + (l ++ [x]).length, false, e) := by
  induction l generalizing i c with
  | nil =>
    simp only [chk, Prod.mk.injEq] at h
    obtain ⟨_, _, rfl⟩ := h
    rw [List.nil_append, chk_on _ _ _ _ _ hs]
    rfl
  | cons y t ih =>
    cases hy : stepC c y.toNat with
    | none => rw [chk_wrong _ _ _ _ hy] at h; simp at h
    | some f =>
      rw [chk_on _ _ _ _ _ hy] at h
      rw [List.cons_append, chk_on _ _ _ _ _ hy, ih (i + 1) f (by rw [h]; simp only [List.length_cons]; congr 1; omega)]
      simp only [List.length_cons, List.length_append, List.length_nil]
      congr 1
      omega
theorem stepC_at0 (c : Cur) (hc : c.left = 0) (x : Nat) : stepC c x = if x < 128 then some c else if x < 194 ∨ 244 < x then none else some ⟨if x < 224 then 1 else if x < 240 then 2 else 3, if x = 224 then 160 else if x = 240 then 144 else 128, if x = 237 then 159 else if x = 244 then 143 else 191⟩ := by
  unfold stepC
  rw [if_neg (by omega)]
theorem stepC_zero {c : Cur} (hc : c.left = 0) (x : Nat) : ∀ d, stepC c x = some d → 0 < d.left → stepC cur0 x = some d ∧ d.left ≤ 3 := by
  intro d h hd
  rw [stepC_at0 c hc] at h
  rw [stepC_at0 cur0 rfl]
  by_cases h1 : x < 128
  · rw [if_pos h1] at h
    cases h
    omega
  · rw [if_neg h1] at h ⊢
    by_cases h2 : x < 194 ∨ 244 < x
    · rw [if_pos h2] at h
      cases h
    · rw [if_neg h2] at h ⊢
      refine ⟨h, ?_⟩
      cases h
      show (if x < 224 then 1 else if x < 240 then 2 else 3) ≤ 3
      (repeat' split) <;> omega
theorem kept_step {tl : List UInt8} {c d : Cur} (h : Kept tl c) (x : UInt8) (hs : stepC c x.toNat = some d) (h0 : ¬ d.left = 0) : Kept (tl ++ [x]) d := by
  refine .inr ⟨by simp, by omega, ?_, ?_⟩
  · rcases h with ⟨rfl, hc⟩ | ⟨_, h1, h2, _⟩
    · have := (stepC_zero hc x.toNat d hs (by omega)).2
      simp only [List.nil_append, List.length_singleton]
      omega
    · rw [List.length_append, List.length_singleton]
      unfold stepC at hs
      rw [if_pos h1] at hs
      split at hs
      · cases hs
      · cases hs
        show c.left - 1 + _ ≤ 4
        omega
  · rcases h with ⟨rfl, hc⟩ | ⟨_, h1, h2, h3⟩
    · have := (stepC_zero hc x.toNat d hs (by omega)).1
      rw [List.nil_append, chk_on _ _ _ _ _ this]
      rfl
    · have h4 := chk_snoc tl x 0 cur0 c d (by rw [h3]; simp) hs
      rw [h4]
      simp
theorem kept_feed {l tl t' : List UInt8} {c c' : Cur} (h : Kept tl c) (hf : feedS l tl c = some (t', c')) : Kept t' c' := by
  induction l generalizing tl c with
  | nil => simp only [feedS, Option.some.injEq, Prod.mk.injEq] at hf; rw [← hf.1, ← hf.2]; exact h
  | cons x t ih =>
    cases hs : stepC c x.toNat with
    | none => rw [feedS_wrong _ _ _ _ hs] at hf; cases hf
    | some d =>
      by_cases h0 : d.left = 0
      · rw [feedS_whole _ _ _ _ _ hs h0] at hf; exact ih (.inl ⟨rfl, h0⟩) hf
      · rw [feedS_part _ _ _ _ _ hs h0] at hf; exact ih (kept_step h x hs h0) hf

/-- Over a form. -/
def FeedOn (k lo hi : Nat) (t tl : List UInt8) (j : Nat) : Form → Prop
  | .ok _ n => ∃ c : Cur, c.left = 0 ∧ feedS t tl ⟨k, lo, hi⟩ = feedS (t.drop (n - j)) [] c
  | .byte _ => feedS t tl ⟨k, lo, hi⟩ = none
  | .cut => ∃ c : Cur, feedS t tl ⟨k, lo, hi⟩ = some (tl ++ t, c)
theorem feedOn_says (k lo hi acc : Nat) (t tl : List UInt8) (j : Nat) (hk : 0 < k) : FeedOn k lo hi t tl j (formOn k lo hi acc t j) := by
  induction k generalizing lo hi acc t tl j with
  | zero => omega
  | succ k ih =>
    cases t with
    | nil => exact ⟨⟨k + 1, lo, hi⟩, by simp [feedS]⟩
    | cons x t =>
      simp only [formOn]
      by_cases h : x.toNat < lo ∨ hi < x.toNat
      · rw [if_pos h]
        exact feedS_wrong _ _ _ _ (by unfold stepC; rw [if_pos (by simp), if_pos h])
      · rw [if_neg h]
        have hs : stepC ⟨k + 1, lo, hi⟩ x.toNat = some ⟨k, 128, 191⟩ := by unfold stepC; rw [if_pos (by simp), if_neg h]; rfl
        rcases Nat.eq_zero_or_pos k with rfl | hk0
        · refine ⟨⟨0, 128, 191⟩, rfl, ?_⟩
          rw [feedS_whole _ _ _ _ _ hs rfl]
          rw [show j + 1 - j = 1 by omega]
          rfl
        · have ih := ih 128 191 (acc * 64 + (x.toNat - 128)) t (tl ++ [x]) (j + 1) hk0
          have hp := feedS_part x t tl _ _ hs (by show ¬ k = 0; omega)
          cases hf : formOn k 128 191 (acc * 64 + (x.toNat - 128)) t (j + 1) with
          | ok r n =>
            rw [hf] at ih
            have hsay := formOn_says k 128 191 (acc * 64 + (x.toNat - 128)) t 0 (j + 1)
            rw [hf] at hsay
            have hn := hsay.2.1
            obtain ⟨c, h1, h2⟩ := ih
            refine ⟨c, h1, ?_⟩
            rw [hp, h2, show n - j = (n - (j + 1)) + 1 by omega, List.drop_succ_cons]
          | byte m => rw [hf] at ih; exact hp.trans ih
          | cut =>
            rw [hf] at ih
            obtain ⟨c, h1⟩ := ih
            refine ⟨c, ?_⟩
            rw [hp, h1, List.append_assoc]
            rfl
def FeedAt (c0 : Cur) (l : List UInt8) : Form → Prop
  | .ok _ n => ∃ c : Cur, c.left = 0 ∧ feedS l [] c0 = feedS (l.drop n) [] c
  | .byte _ => feedS l [] c0 = none
  | .cut => ∃ c : Cur, feedS l [] c0 = some (l, c)
theorem feedAt_says (c0 : Cur) (h0 : c0.left = 0) (l : List UInt8) (hl : l ≠ []) : FeedAt c0 l (formAt l) := by
  cases l with
  | nil => exact absurd rfl hl
  | cons x t =>
    simp only [formAt]
    by_cases h1 : x.toNat < 128
    · rw [if_pos h1]
      exact ⟨c0, h0, feedS_whole _ _ _ _ _ (by unfold stepC; rw [if_neg (by omega), if_pos h1]) h0⟩
    · rw [if_neg h1]
      by_cases h2 : x.toNat < 194 ∨ 244 < x.toNat
      · rw [if_pos h2]
        exact feedS_wrong _ _ _ _ (by unfold stepC; rw [if_neg (by omega), if_neg h1, if_pos h2])
      · rw [if_neg h2]
        have hs := stepC_lead' c0 h0 x.toNat (by omega) (by omega)
        have hlp := leftOf_pos x.toNat
        have hp := feedS_part x t [] _ _ hs (by show ¬ leftOf x.toNat = 0; omega)
        have ih := feedOn_says (leftOf x.toNat) (loOf x.toNat) (hiOf x.toNat) (leadOf x.toNat) t ([] ++ [x]) 1 hlp
        cases hf : formOn (leftOf x.toNat) (loOf x.toNat) (hiOf x.toNat) (leadOf x.toNat) t 1 with
        | ok r n =>
          rw [hf] at ih
          have hsay := formOn_says (leftOf x.toNat) (loOf x.toNat) (hiOf x.toNat) (leadOf x.toNat) t 0 1
          rw [hf] at hsay
          have hn := hsay.2.1
          obtain ⟨c, k1, k2⟩ := ih
          refine ⟨c, k1, ?_⟩
          obtain ⟨m, rfl⟩ : ∃ m, n = m + 1 := ⟨n - 1, by omega⟩
          rw [hp, k2, List.drop_succ_cons, Nat.add_sub_cancel]
        | byte m => rw [hf] at ih; exact hp.trans ih
        | cut =>
          rw [hf] at ih
          obtain ⟨c, k1⟩ := ih
          exact ⟨c, by rw [hp, k1]; rfl⟩
end Go.Proofs.Ytjbhehkkigopmaa
