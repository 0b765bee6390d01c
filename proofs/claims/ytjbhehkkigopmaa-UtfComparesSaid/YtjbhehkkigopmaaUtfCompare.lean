/- The contracts of utf.Compare: the order of two texts. -/
import Derived.Test.YtjbhehkkigopmaaCheck
import Derived.Test.YtjbhehkkigopmaaUtfOrd
import Derived.Test.YtjbhehkkigopmaaShelf
import Derived.WalkLawsBesides
namespace Go.Proofs.Ytjbhehkkigopmaa
open Go.RowKit Go.Joins

theorem below_drewN {B : Nat} {a b : World} (n : Nat) (h : Below B a b) : Below B a (b.drewN n) := ⟨h.os, h.tape, h.output, h.size, h.block⟩

theorem rank_less {x y : UInt8} {v : Int} {t : Int} (ht : t = if rank x < rank y then -1 else 1)
    (h : (v = -1 ∧ ((240 ≤ x.toNat ∧ 238 ≤ y.toNat ∧ y.toNat < 240) ∨ (¬ (240 ≤ y.toNat ∧ 238 ≤ x.toNat ∧ x.toNat < 240) ∧ x.toNat < y.toNat))) ∨
      (v = 1 ∧ ((240 ≤ y.toNat ∧ 238 ≤ x.toNat ∧ x.toNat < 240) ∨ (¬ (240 ≤ x.toNat ∧ 238 ≤ y.toNat ∧ y.toNat < 240) ∧ y.toNat < x.toNat)))) : t = v := by
  have := x.toNat_lt; have := y.toNat_lt
  rcases h with ⟨rfl, h⟩ | ⟨rfl, h⟩
  · have : rank x < rank y := by unfold rank; (repeat' split) <;> omega
    rw [ht, if_pos this]
  · have : ¬ rank x < rank y := by unfold rank; (repeat' split) <;> omega
    rw [ht, if_neg this]

set_option maxRecDepth 100000 in
set_option maxHeartbeats 4000000 in
theorem compareRight_any (a b : ByteArray) (ha : a.size ≤ 9223372036854775807) (w : World) :
    Calls Try.prog 57 #[.string a, .string b] w fun e w' => e = .returned (.int .i64 (cmpR a.data.toList b.data.toList)) ∧ Below w.heap.size w w' := by
  obtain ⟨r, hr⟩ : ∃ r, cmpR a.data.toList b.data.toList = r := ⟨_, rfl⟩
  rw [hr]
  have HR := Lib.hid hr
  clear hr
  obtain ⟨m, hm, hma, hmb, hmin⟩ : ∃ m : Nat, min (a.size : Int) (b.size : Int) = (m : Int) ∧ m ≤ a.size ∧ m ≤ b.size ∧ m = min a.data.toList.length b.data.toList.length := by
    rw [Array.length_toList, Array.length_toList]
    exact ⟨min a.size b.size, by omega, Nat.min_le_left _ _, Nat.min_le_right _ _, rfl⟩
  have HM := Lib.hid hmin
  clear hmin
  go_enter Try.func57, Try.ntmps57
  go_wp2_with fail
  go_loopw [13] (fun v wr => ∃ k : Nat, k ≤ m ∧ v = .int .i64 k ∧ Below w.heap.size w wr ∧ Hid (a.data.toList.take k = b.data.toList.take k)) (fun v _ => m - (intOf v).toNat)
  case atStart => exact ⟨0, Nat.zero_le _, rfl, Below.refl _ _, rfl⟩
  case round =>
    obtain ⟨k, hk, rfl, hw, ht⟩ := hrel
    by_cases hlt : k < m
    · have ka : k < a.data.toList.length := by rw [Array.length_toList]; show k < a.size; omega
      have kb : k < b.data.toList.length := by rw [Array.length_toList]; show k < b.size; omega
      have ka' : k < a.size := by omega
      have kb' : k < b.size := by omega
      have xa := a[k].toNat_lt
      have xb := b[k].toNat_lt
      by_cases he : a[k] = b[k]
      · have ht2 : a.data.toList.take (k + 1) = b.data.toList.take (k + 1) := by
          rw [List.take_succ_eq_append_getElem ka, List.take_succ_eq_append_getElem kb, ht.out]
          congr 2
        have HT := Lib.hid ht2
        have e1 : (((a[k].toNat : Nat) : Int) == ((b[k].toNat : Nat) : Int)) = true := by rw [he]; simp
        clear ht2 ht he
        go_wp2_with fail
        go_quiet (fail)
        go_wp2_with fail
        go_roundw
        case rel => exact ⟨k + 1, by omega, by go_num, below_drewN _ hw, HT⟩
        case measure => simp [intOf]; omega
      · have hfin : ∀ v : Int, ((v = -1 ∧ ((240 ≤ a[k].toNat ∧ 238 ≤ b[k].toNat ∧ b[k].toNat < 240) ∨ (¬ (240 ≤ b[k].toNat ∧ 238 ≤ a[k].toNat ∧ a[k].toNat < 240) ∧ a[k].toNat < b[k].toNat))) ∨
            (v = 1 ∧ ((240 ≤ b[k].toNat ∧ 238 ≤ a[k].toNat ∧ a[k].toNat < 240) ∨ (¬ (240 ≤ a[k].toNat ∧ 238 ≤ b[k].toNat ∧ b[k].toNat < 240) ∧ b[k].toNat < a[k].toNat)))) → r = v := fun v h =>
          rank_less (HR.out.symm.trans (cmpR_at _ _ k ht.out ka kb he)) h
        have HF := Lib.hid hfin
        have hne : a[k].toNat ≠ b[k].toNat := fun h => he (UInt8.toNat_inj.1 h)
        have HN := Lib.hid hne
        have e1 : (((a[k].toNat : Nat) : Int) == ((b[k].toNat : Nat) : Int)) = false := by rw [beq_eq_false_iff_ne]; omega
        clear hfin hne he ht
        go_wp2_with fail
        go_quiet (fail)
        go_wp2_with fail
        all_goals
          go_ret
          have hne := HN.out
          first
            | exact ⟨by rw [HF.out (-1) (.inl ⟨rfl, by omega⟩)]; rfl, below_drewN _ hw⟩
            | exact ⟨by rw [HF.out 1 (.inr ⟨rfl, by omega⟩)]; rfl, below_drewN _ hw⟩
    · obtain rfl : k = m := by omega
      have he := cmpR_end a.data.toList b.data.toList (by rw [← HM.out]; exact ht.out)
      have HE := Lib.hid (he.trans HR.out)
      clear he ht
      go_wp2_with fail
      refine (Go.Proofs.Try.strings_Compare a b _).mono ?_
      rintro e w1 ⟨rfl, rfl⟩
      go_wp2_with fail
      go_ret
      exact ⟨by rw [← HE.out]; rfl, hw⟩

set_option maxRecDepth 100000 in
set_option maxHeartbeats 4000000 in
theorem compare_any (a b : ByteArray) (ha : a.size ≤ 9223372036854775807) (hb : b.size ≤ 9223372036854775807) (w : World) :
    Calls Try.prog 36 #[.string a, .string b] w fun e w' => e = .returned (.int .i64 (cmpU rt a.data.toList b.data.toList)) ∧ Below w.heap.size w w' := by
  have R1 := Lib.hid (right_any a ha)
  have R2 := Lib.hid (right_any b hb)
  have C1 := Lib.hid (compareRight_any a b ha)
  unfold cmpU
  by_cases he : a.data.toList = b.data.toList
  · rw [if_pos he]
    have e1 : (a.toList == b.toList) = true := by rw [ByteArray.toList_eq, ByteArray.toList_eq, he]; simp
    clear he
    go_enter Try.func36, Try.ntmps36
    go_wp2_with fail
    go_ret
    exact ⟨rfl, Below.refl _ _⟩
  · rw [if_neg he]
    have e1 : (a.toList == b.toList) = false := by rw [ByteArray.toList_eq, ByteArray.toList_eq, beq_eq_false_iff_ne]; exact he
    clear he
    cases h1 : rt a.data.toList <;> cases h2 : rt b.data.toList
    all_goals
      rw [h1] at R1
      rw [h2] at R2
      clear h1 h2
      go_enter Try.func36, Try.ntmps36
      go_wp2_with fail
      refine (R1.out _).mono ?_
      rintro e w1 ⟨rfl, b1⟩
      have s1 := b1.size
      go_wp2_with fail
      refine (R2.out _).mono ?_
      rintro e w2 ⟨rfl, b2⟩
      have s2 := b2.size
      go_wp2_with fail
      first
        | (go_ret
           exact ⟨rfl, b1.trans (b2.mono s1)⟩)
        | (refine (R2.out _).mono ?_
           rintro e w3 ⟨rfl, b3⟩
           have s3 := b3.size
           go_wp2_with fail
           first
             | (go_ret
                exact ⟨rfl, (b1.trans (b2.mono s1)).trans (b3.mono (by omega))⟩)
             | (refine (C1.out _).mono ?_
                rintro e w4 ⟨rfl, b4⟩
                go_wp2_with fail
                go_ret
                exact ⟨rfl, ((b1.trans (b2.mono s1)).trans (b3.mono (by omega))).trans (b4.mono (by omega))⟩)
             | (refine (Go.Proofs.Try.strings_Compare a b _).mono ?_
                rintro e w4 ⟨rfl, rfl⟩
                go_wp2_with fail
                go_ret
                exact ⟨rfl, (b1.trans (b2.mono s1)).trans (b3.mono (by omega))⟩))
end Go.Proofs.Ytjbhehkkigopmaa
