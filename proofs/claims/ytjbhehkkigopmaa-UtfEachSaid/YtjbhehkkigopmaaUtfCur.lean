/- Plain: going over bytes by a cursor: how many bytes of a form are to come, and from where to where the next one may be. -/
import GoSem.Op.String
namespace Go.Proofs.Ytjbhehkkigopmaa

/-- Where one stands within a form. -/
structure Cur where
  left : Nat
  least : Nat
  most : Nat

/-- One byte more; none says that no right text goes on with it. -/
def stepC (c : Cur) (x : Nat) : Option Cur :=
  if 0 < c.left then (if x < c.least ∨ c.most < x then none else some ⟨c.left - 1, 128, 191⟩)
  else if x < 128 then some c
  else if x < 194 ∨ 244 < x then none
  else some ⟨if x < 224 then 1 else if x < 240 then 2 else 3, if x = 224 then 160 else if x = 240 then 144 else 128, if x = 237 then 159 else if x = 244 then 143 else 191⟩

/-- How far bytes are taken, whether a wrong one ended it, and where one stands there. -/
def chk : List UInt8 → Nat → Cur → Nat × Bool × Cur
  | [], i, c => (i, false, c)
  | x :: t, i, c => match stepC c x.toNat with
    | none => (i, true, c)
    | some d => chk t (i + 1) d

/-- The first cursor. -/
def cur0 : Cur := ⟨0, 0, 0⟩
/-- Is a row of bytes a right text? -/
def rt (l : List UInt8) : Bool := !(chk l 0 cur0).2.1 && decide ((chk l 0 cur0).2.2.left = 0)

theorem chk_wrong (x : UInt8) (t : List UInt8) (i : Nat) (c : Cur) (h : stepC c x.toNat = none) : chk (x :: t) i c = (i, true, c) := by simp only [chk, h]
theorem chk_on (x : UInt8) (t : List UInt8) (i : Nat) (c d : Cur) (h : stepC c x.toNat = some d) : chk (x :: t) i c = chk t (i + 1) d := by simp only [chk, h]

/-- A cursor that may come up. -/
def Cur.ok (c : Cur) : Prop := c.left ≤ 3 ∧ c.least ≤ 255 ∧ c.most ≤ 255
theorem cur0_ok : cur0.ok := by unfold Cur.ok cur0; simp
theorem stepC_ok {c d : Cur} {x : Nat} (hc : c.ok) (h : stepC c x = some d) : d.ok := by
  unfold stepC at h
  unfold Cur.ok at *
  split at h
  · split at h
    · cases h
    · cases h; simp; omega
  · split at h
    · cases h; exact hc
    · split at h
      · cases h
      · cases h
        refine ⟨?_, ?_, ?_⟩ <;> simp only [] <;> (repeat' split) <;> omega
end Go.Proofs.Ytjbhehkkigopmaa
