/- The contracts of the reference's square, cube and root. -/
import Derived.Test.YtjjahcidncnogaaDoorRefW
import Derived.Test.YtjjahcidncnogaaDoorShelf
namespace Go.Proofs.YtjjahcidncnogaaDoor
open Go.RowKit Go.Lib

theorem mul64_at (x y : Nat) (hx : x < 18446744073709551616) (hy : y < 18446744073709551616) (w : World) :
    Calls Tryd.prog 101 #[.int .u64 x, .int .u64 y] w fun e w' => e = .returned (.tuple #[.int .u64 ((x * y / 18446744073709551616 : Nat) : Int), .int .u64 ((x * y % 18446744073709551616 : Nat) : Int)]) ∧ w' = w :=
  Tryd.bits_Mul64 x y hx hy w

theorem wrap64 (n : Int) : IntKind.u64.wrap n = n % 18446744073709551616 := by simp [IntKind.wrap, IntKind.bits, IntKind.signed]
theorem beq_zero (n : Nat) : ((n : Int) == 0) = (n == 0) := by
  rw [Bool.eq_iff_iff]
  simp
set_option maxHeartbeats 1000000 in
theorem square_any (s p : Nat) (hs : s < 18446744073709551616) (_hp : p < 18446744073709551616) (w : World) :
    Calls Tryd.prog 96 #[.int .u64 s, .int .u64 p] w fun e w' => e = .returned (.bool (squareN s p)) ∧ w' = w := by
  have HM := Lib.hid (fun w => mul64_at s s hs hs w)
  obtain ⟨R, hR⟩ : ∃ R, squareN s p = R := ⟨_, rfl⟩
  rw [hR]
  unfold squareN at hR
  obtain ⟨hi, hhi⟩ : ∃ h, s * s / 18446744073709551616 = h := ⟨_, rfl⟩
  obtain ⟨lo, hlo⟩ : ∃ h, s * s % 18446744073709551616 = h := ⟨_, rfl⟩
  rw [hhi, hlo] at hR HM
  clear hhi hlo hs _hp
  by_cases c1 : hi < p
  · rw [if_pos c1] at hR
    have d1 : decide ((hi : Int) < (p : Int)) = true := decide_eq_true (by omega)
    have i1 : (hi : Int) < (p : Int) := by omega
    go_enter Tryd.func96, Tryd.ntmps96
    go_wp2_with (go_at_call 101; refine (HM.out _).mono ?_; rintro e w' ⟨rfl, rfl⟩)
    go_ret
    simp [← hR]
  · rw [if_neg c1] at hR
    have d1 : decide ((hi : Int) < (p : Int)) = false := decide_eq_false (by omega)
    have i1 : ¬ (hi : Int) < (p : Int) := by omega
    by_cases c2 : hi = p
    · subst c2
      go_enter Tryd.func96, Tryd.ntmps96
      go_wp2_with (go_at_call 101; refine (HM.out _).mono ?_; rintro e w' ⟨rfl, rfl⟩)
      go_ret
      rw [← hR]
      simp
      exact beq_zero lo
    · have n2 : ¬ (hi : Int) = (p : Int) := by omega
      go_enter Tryd.func96, Tryd.ntmps96
      go_wp2_with (go_at_call 101; refine (HM.out _).mono ?_; rintro e w' ⟨rfl, rfl⟩)
      go_ret
      simp [← hR, c2]

set_option maxHeartbeats 2000000 in
theorem cube_any (s p : Nat) (hs : s < 18446744073709551616) (w : World) :
    Calls Tryd.prog 95 #[.int .u64 s, .int .u64 p] w fun e w' => e = .returned (.bool (cubeN s p)) ∧ w' = w := by
  have HM := Lib.hid (fun w => mul64_at s s hs hs w)
  obtain ⟨R, hR⟩ : ∃ R, cubeN s p = R := ⟨_, rfl⟩
  rw [hR]
  unfold cubeN at hR
  obtain ⟨hi, hhi⟩ : ∃ h, s * s / 18446744073709551616 = h := ⟨_, rfl⟩
  obtain ⟨lo, hlo⟩ : ∃ h, s * s % 18446744073709551616 = h := ⟨_, rfl⟩
  have hl : lo < 18446744073709551616 := by omega
  have HM2 := Lib.hid (fun w => mul64_at lo s hl hs w)
  rw [hhi, hlo] at hR HM
  clear hhi hlo hs hl
  obtain ⟨th, hth⟩ : ∃ h, lo * s / 18446744073709551616 = h := ⟨_, rfl⟩
  obtain ⟨low, hlow⟩ : ∃ h, lo * s % 18446744073709551616 = h := ⟨_, rfl⟩
  rw [hth, hlow] at hR HM2
  clear hth hlow
  obtain ⟨top, htop⟩ : ∃ h, (th + hi * s % 18446744073709551616) % 18446744073709551616 = h := ⟨_, rfl⟩
  obtain ⟨q, hq⟩ : ∃ h, p * 4294967296 % 18446744073709551616 = h := ⟨_, rfl⟩
  have e1 : IntKind.u64.wrap ((th : Int) + IntKind.u64.wrap ((hi : Int) * (s : Int))) = (top : Int) := by rw [wrap64, wrap64, ← htop]; simp
  have e2 : IntKind.u64.wrap ((p : Int) * 4294967296) = (q : Int) := by rw [wrap64, ← hq]; simp
  simp only [htop, hq] at hR
  clear htop hq
  by_cases c1 : top < q
  · rw [if_pos c1] at hR
    have d1 : decide ((top : Int) < (q : Int)) = true := decide_eq_true (by omega)
    have i1 : (top : Int) < (q : Int) := by omega
    go_enter Tryd.func95, Tryd.ntmps95
    go_wp2_with fail
    refine (HM.out _).mono ?_
    rintro e w' ⟨rfl, rfl⟩
    go_wp2_with fail
    refine (HM2.out _).mono ?_
    rintro e w' ⟨rfl, rfl⟩
    go_wp2_with fail
    go_ret
    simp [← hR]
  · rw [if_neg c1] at hR
    have d1 : decide ((top : Int) < (q : Int)) = false := decide_eq_false (by omega)
    have i1 : ¬ (top : Int) < (q : Int) := by omega
    by_cases c2 : top = q
    · subst c2
      go_enter Tryd.func95, Tryd.ntmps95
      go_wp2_with fail
      refine (HM.out _).mono ?_
      rintro e w' ⟨rfl, rfl⟩
      go_wp2_with fail
      refine (HM2.out _).mono ?_
      rintro e w' ⟨rfl, rfl⟩
      go_wp2_with fail
      go_ret
      rw [← hR]
      simp
      exact beq_zero low
    · have n2 : ¬ (top : Int) = (q : Int) := by omega
      go_enter Tryd.func95, Tryd.ntmps95
      go_wp2_with fail
      refine (HM.out _).mono ?_
      rintro e w' ⟨rfl, rfl⟩
      go_wp2_with fail
      refine (HM2.out _).mono ?_
      rintro e w' ⟨rfl, rfl⟩
      go_wp2_with fail
      go_ret
      simp [← hR, c2]


set_option maxRecDepth 100000 in
set_option maxHeartbeats 4000000 in
theorem root_any (p : Nat) (three : Bool) (hp : p < 4294967296) (w : World) :
    Calls Tryd.prog 80 #[.int .u64 p, .bool three] w fun e w' => e = .returned (.int .u32 (rootI three p)) ∧ w' = w := by
  have HCube := Lib.hid (fun s hs w => cube_any s p hs w)
  have HSquare := Lib.hid (fun s hs w => square_any s p hs (by omega) w)
  clear hp
  obtain ⟨R, hR⟩ : ∃ R, rootN three p 40 0 = R := ⟨_, rfl⟩
  have HE : Hid (rootI three p = ((R % 4294967296 : Nat) : Int)) := Lib.hid (by unfold rootI; rw [hR])
  obtain ⟨E, hE⟩ : ∃ E, rootI three p = E := ⟨_, rfl⟩
  rw [hE] at HE ⊢
  clear hE
  have HStart : Hid (∃ (i s : Nat), Value.int .i64 39 = .int .i64 ((i : Int) - 1) ∧ i ≤ 40 ∧ Value.int .u64 0 = .int .u64 (s : Int) ∧ s < 1099511627776 ∧ Hid (rootN three p i s = R)) := Lib.hid ⟨40, 0, rfl, Nat.le_refl _, rfl, by decide, Lib.hid hR⟩
  clear hR
  go_enter Tryd.func80, Tryd.ntmps80
  go_wp2_with fail
  go_loopw [5, 6] (fun x v wr => ∃ (i s : Nat), v = .int .i64 ((i : Int) - 1) ∧ i ≤ 40 ∧ x = .int .u64 (s : Int) ∧ s < 1099511627776 ∧ Hid (rootN three p i s = R) ∧ wr = w) (fun _ v _ => (RowKit.intOf v + 1).toNat)
  case atStart =>
    obtain ⟨i, s, h1, h2, h3, h4, h5⟩ := HStart.out
    exact ⟨i, s, h1, h2, h3, h4, h5, rfl⟩
  case round =>
    clear HStart
    obtain ⟨i, s, rfl, hi, rfl, hs, hk, rfl⟩ := hrel
    rcases i with _ | i
    · have hRs : s = R := hk.out
      have e1 : ((0 : Nat) : Int) - 1 = -1 := rfl
      rw [e1]
      have HF : Hid ((s : Int) % 4294967296 = E) := Lib.hid (by rw [HE.out, ← hRs]; simp)
      clear hRs e1 hk hs hi HE HCube HSquare
      go_wp2_with fail
      go_ret
      exact ⟨by rw [← HF.out]; rfl, rfl⟩
    · have e1 : ((i + 1 : Nat) : Int) - 1 = (i : Int) := by omega
      have d1 : decide ((i : Int) ≥ 0) = true := decide_eq_true (by omega)
      have i1 : (0 : Int) ≤ (i : Int) := by omega
      rw [e1]
      have HS := Lib.hid hs
      have HI := Lib.hid hi
      clear e1 hs hi
      have hi39 : (i : Int) ≤ 39 := by have := HI.out; omega
      obtain ⟨P, hP⟩ : ∃ P, 2 ^ i = P := ⟨_, rfl⟩
      have hPl : P < 1099511627776 := by
        rw [← hP]
        exact Nat.pow_lt_pow_right (by decide) (show i < 40 by have := HI.out; omega)
      have hsh : Op.shift .shl .u64 1 .i64 (i : Int) = pure (.int .u64 (P : Int)) := by
        rw [shift_shl .u64 .i64 1 (i : Int) (by omega) (by have := HI.out; show (i : Int) ≤ 64; omega), wrap64]
        have e : (1 : Int) * 2 ^ (i : Int).toNat = (P : Int) := by rw [← hP]; simp
        rw [e]
        congr 2
        omega
      obtain ⟨t, ht⟩ : ∃ t, s ||| P = t := ⟨_, rfl⟩
      have htl : t < 1099511627776 := by
        rw [← ht]
        exact Nat.or_lt_two_pow (n := 40) HS.out hPl
      have hor : bits .or .u64 (s : Int) (P : Int) = (t : Int) := by rw [u64_or_nat s P (by have := HS.out; omega) (by omega), ht]
      have HK : Hid (rootN three p i (if fits three t p then t else s) = R) := Lib.hid (by
        have h := hk.out
        unfold rootN at h
        rw [hP, ht] at h
        exact h)
      have HTl := Lib.hid htl
      have hwi : IntKind.i64.wrap ((i : Int) - 1) = (i : Int) - 1 := by rw [IntKind.wrap_i64]; omega
      clear hPl hP ht hk htl hi39
      cases three
      · have HC := Lib.hid (fun w => HSquare.out t (by have := HTl.out; omega) w)
        obtain ⟨cu, hcu⟩ : ∃ c, squareN t p = c := ⟨_, rfl⟩
        have hf : fits false t p = cu := by unfold fits; rw [if_neg (by decide), hcu]
        rw [hcu] at HC
        rw [hf] at HK
        clear hcu hf HSquare HCube
        cases cu
        · rw [if_neg (by decide)] at HK
          go_wp2_with (go_at_call 96; refine (HC.out _).mono ?_; rintro e w' ⟨rfl, rfl⟩)
          go_roundw
          case rel => exact ⟨i, _, by first | rfl | go_num, by have := HI.out; omega, rfl, HS.out, HK, by first | rfl | trivial⟩
          case measure => simp [RowKit.intOf]
        · rw [if_pos rfl] at HK
          go_wp2_with (go_at_call 96; refine (HC.out _).mono ?_; rintro e w' ⟨rfl, rfl⟩)
          go_roundw
          case rel => exact ⟨i, _, by first | rfl | go_num, by have := HI.out; omega, rfl, HTl.out, HK, by first | rfl | trivial⟩
          case measure => simp [RowKit.intOf]
      · by_cases h36 : t < 68719476736
        · have HC := Lib.hid (fun w => HCube.out t (by have := HTl.out; omega) w)
          obtain ⟨cu, hcu⟩ : ∃ c, cubeN t p = c := ⟨_, rfl⟩
          have hf : fits true t p = cu := by unfold fits; rw [if_pos rfl, hcu, decide_eq_true h36, Bool.true_and]
          rw [hcu] at HC
          rw [hf] at HK
          have i3 : (t : Int) < 68719476736 := by omega
          clear hcu hf HSquare HCube h36
          cases cu
          · rw [if_neg (by decide)] at HK
            go_wp2_with (go_at_call 95; refine (HC.out _).mono ?_; rintro e w' ⟨rfl, rfl⟩)
            go_roundw
            case rel => exact ⟨i, _, by first | rfl | go_num, by have := HI.out; omega, rfl, HS.out, HK, by first | rfl | trivial⟩
            case measure => simp [RowKit.intOf]
          · rw [if_pos rfl] at HK
            go_wp2_with (go_at_call 95; refine (HC.out _).mono ?_; rintro e w' ⟨rfl, rfl⟩)
            go_roundw
            case rel => exact ⟨i, _, by first | rfl | go_num, by have := HI.out; omega, rfl, HTl.out, HK, by first | rfl | trivial⟩
            case measure => simp [RowKit.intOf]
        · have hf : fits true t p = false := by unfold fits; rw [if_pos rfl, decide_eq_false h36, Bool.false_and]
          rw [hf, if_neg (by decide)] at HK
          have i3 : ¬ (t : Int) < 68719476736 := by omega
          clear hf HSquare HCube h36
          go_wp2_with (fail)
          go_roundw
          case rel => exact ⟨i, _, by first | rfl | go_num, by have := HI.out; omega, rfl, HS.out, HK, by first | rfl | trivial⟩
          case measure => simp [RowKit.intOf]
end Go.Proofs.YtjjahcidncnogaaDoor
