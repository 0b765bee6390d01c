/- The contracts of base.Size, base.Room and of the reference's, over plain numbers. -/
import Derived.Test.YtnpfpmfgdefboaaRows
import Derived.WalkKit
import Derived.ProofKit
import Derived.OpenShut
import Derived.Handy
import Derived.Deep.QuietTactic
import Derived.BigQuiet
import Derived.Lib.Hide
import Derived.LoopTactic
namespace Go.Proofs.Ytnpfpmfgdefboaa
open Go.RowKit Go.Lib

theorem grown_trans {a b c : World} (h : Grown a b) (g : Grown b c) : Grown a c :=
  ⟨World.keptBut_trans h.1 g.1, fun x => (g.2.1 x).trans (h.2.1 x), Nat.le_trans h.2.2 g.2.2⟩

theorem grown_drewN {a b : World} (n : Nat) (h : Grown a b) : Grown a (b.drewN n) := h

set_option maxRecDepth 100000 in
set_option maxHeartbeats 1000000 in
theorem letters_none (a : Int) (h0 : 0 ≤ a) (h1 : a ≤ 255) (h : a = 0 ∨ 4 ≤ a) (w : World) :
    Calls Try.prog 73 #[.int .u8 a] w fun e w' => e = .returned (.tuple #[.string ⟨#[]⟩, .int .u64 0, .bool false]) ∧ Grown w w' := by
  rcases h with rfl | h
  · go_enter Try.func73, Try.ntmps73
    go_wp2
    go_returns
    exact ⟨rfl, by go_grown⟩
  · go_enter Try.func73, Try.ntmps73
    go_wp2
    go_returns
    exact ⟨rfl, by go_grown⟩

set_option maxRecDepth 100000 in
set_option maxHeartbeats 1000000 in
theorem letters_some (a : Int) (h : a = 1 ∨ a = 2 ∨ a = 3) (w : World) :
    Calls Try.prog 73 #[.int .u8 a] w fun e w' => (∃ s : ByteArray, e = .returned (.tuple #[.string s, .int .u64 (a + 3), .bool true])) ∧ Grown w w' := by
  rcases h with rfl | rfl | rfl
  all_goals
    go_enter Try.func73, Try.ntmps73
    go_wp2
    go_quiet (fail)
    go_wp2
    go_returns
    exact ⟨⟨_, rfl⟩, grown_drewN _ ((Grown.refl w).alloc _ _)⟩

theorem count_any (n k : Int) (hn : 0 ≤ n) (hn' : n ≤ 16777216) (hk : 4 ≤ k) (hk' : k ≤ 6) (w : World) :
    Calls Try.prog 74 #[.int .i64 n, .int .i64 k] w fun e w' => e = .returned (.int .i64 ((8 * n + k - 1) / k)) ∧ w' = w := by
  go_enter Try.func74, Try.ntmps74
  go_wp2
  go_ret
  exact ⟨rfl, rfl⟩

theorem size_none (a n : Int) (h0 : 0 ≤ a) (h1 : a ≤ 255) (h : a = 0 ∨ 4 ≤ a) (w : World) :
    Calls Try.prog 42 #[.int .u8 a, .int .i64 n] w fun e w' => e = .returned (.tuple #[.int .i64 0, .iface 24 (.int .i64 2)]) ∧ Grown w w' := by
  have C := letters_none a h0 h1 h
  have HC := Lib.hid C
  clear C h h0 h1
  go_enter Try.func42, Try.ntmps42
  go_wp2_with fail
  refine (HC.out _).mono ?_
  rintro e w' ⟨rfl, hg⟩
  go_wp2
  go_ret2
  exact ⟨rfl, hg⟩

theorem size_off (a n : Int) (h : a = 1 ∨ a = 2 ∨ a = 3) (hn : n < 0 ∨ 16777216 < n) (w : World) :
    Calls Try.prog 42 #[.int .u8 a, .int .i64 n] w fun e w' => e = .returned (.tuple #[.int .i64 0, .iface 24 (.int .i64 2)]) ∧ Grown w w' := by
  have C := letters_some a h
  have HC := Lib.hid C
  clear C h
  rcases hn with hn | hn
  all_goals
    go_enter Try.func42, Try.ntmps42
    go_wp2_with fail
    refine (HC.out _).mono ?_
    rintro e w' ⟨⟨s, rfl⟩, hg⟩
    go_wp2
    go_ret2
    exact ⟨rfl, hg⟩

theorem size_some (a n : Int) (h : a = 1 ∨ a = 2 ∨ a = 3) (hn : 0 ≤ n) (hn' : n ≤ 16777216) (w : World) :
    Calls Try.prog 42 #[.int .u8 a, .int .i64 n] w fun e w' => e = .returned (.tuple #[.int .i64 ((8 * n + (a + 3) - 1) / (a + 3)), .nilIface]) ∧ Grown w w' := by
  have C := letters_some a h
  have HC := Lib.hid C
  have ha : 1 ≤ a := by omega
  have ha' : a ≤ 3 := by omega
  clear C h
  go_enter Try.func42, Try.ntmps42
  go_wp2_with fail
  refine (HC.out _).mono ?_
  rintro e w' ⟨⟨s, rfl⟩, hg⟩
  go_wp2_with fail
  refine (count_any n (a + 3) hn hn' (by omega) (by omega) _).mono ?_
  rintro e w' ⟨rfl, rfl⟩
  go_wp2
  go_ret2
  exact ⟨rfl, hg⟩
theorem room_none (a n : Int) (h0 : 0 ≤ a) (h1 : a ≤ 255) (h : a = 0 ∨ 4 ≤ a) (w : World) :
    Calls Try.prog 46 #[.int .u8 a, .int .i64 n] w fun e w' => e = .returned (.tuple #[.int .i64 0, .bool false]) ∧ Grown w w' := by
  have C := letters_none a h0 h1 h
  have HC := Lib.hid C
  clear C h h0 h1
  go_enter Try.func46, Try.ntmps46
  go_wp2_with fail
  refine (HC.out _).mono ?_
  rintro e w' ⟨rfl, hg⟩
  go_wp2
  go_ret2
  exact ⟨rfl, hg⟩

theorem room_less (a n : Int) (h : a = 1 ∨ a = 2 ∨ a = 3) (hn : n < 0) (w : World) :
    Calls Try.prog 46 #[.int .u8 a, .int .i64 n] w fun e w' => e = .returned (.tuple #[.int .i64 0, .bool false]) ∧ Grown w w' := by
  have C := letters_some a h
  have HC := Lib.hid C
  clear C h
  go_enter Try.func46, Try.ntmps46
  go_wp2_with fail
  refine (HC.out _).mono ?_
  rintro e w' ⟨⟨s, rfl⟩, hg⟩
  go_wp2
  go_ret2
  exact ⟨rfl, hg⟩

/-- How many bytes n letters are, if some are as many. -/
def roomed (k n : Int) : Int := n / 8 * k + n % 8 * k / 8
/-- Are there bytes of n letters? -/
def fits (k n : Int) : Bool := (8 * (n % 8 * k / 8) + k - 1) / k == n % 8

theorem prod_bd (k n : Int) (hk : 4 ≤ k) (hk' : k ≤ 6) (hn : 0 ≤ n) (hn' : n ≤ 9223372036854775807) :
    0 ≤ n % 8 * k ∧ n % 8 * k ≤ 42 ∧ 0 ≤ n / 8 * k ∧ n / 8 * k + n % 8 * k / 8 ≤ 9223372036854775807 ∧ n / 8 * k ≤ 9223372036854775807 := by
  obtain rfl | rfl | rfl : k = 4 ∨ k = 5 ∨ k = 6 := by omega
  all_goals omega

set_option maxHeartbeats 1000000 in
theorem room_some (a n : Int) (h : a = 1 ∨ a = 2 ∨ a = 3) (hn : 0 ≤ n) (hn' : n ≤ 9223372036854775807) (w : World) :
    Calls Try.prog 46 #[.int .u8 a, .int .i64 n] w fun e w' => e = .returned (.tuple #[.int .i64 (if fits (a + 3) n = true then roomed (a + 3) n else 0), .bool (fits (a + 3) n)]) ∧ Grown w w' := by
  have C := letters_some a h
  have HC := Lib.hid C
  obtain ⟨b1, b2, b3, b4, b5⟩ := prod_bd (a + 3) n (by omega) (by omega) hn hn'
  have ha : 1 ≤ a := by omega
  have ha' : a ≤ 3 := by omega
  clear C h
  by_cases hf : fits (a + 3) n = true
  · rw [if_pos hf, hf]
    have e1 : ((8 * (n % 8 * (a + 3) / 8) + (a + 3) - 1) / (a + 3) != n % 8) = false := by
      unfold fits at hf; simpa using hf
    unfold roomed
    clear hf
    go_enter Try.func46, Try.ntmps46
    go_wp2_with fail
    refine (HC.out _).mono ?_
    rintro e w' ⟨⟨s, rfl⟩, hg⟩
    go_wp2_with fail
    refine (count_any _ _ (by omega) (by omega) (by omega) (by omega) _).mono ?_
    rintro e w' ⟨rfl, rfl⟩
    go_wp2
    go_ret2
    exact ⟨rfl, hg⟩
  · rw [if_neg hf, Bool.eq_false_iff.2 hf]
    have e1 : ((8 * (n % 8 * (a + 3) / 8) + (a + 3) - 1) / (a + 3) != n % 8) = true := by
      unfold fits at hf; simpa using hf
    clear hf
    go_enter Try.func46, Try.ntmps46
    go_wp2_with fail
    refine (HC.out _).mono ?_
    rintro e w' ⟨⟨s, rfl⟩, hg⟩
    go_wp2_with fail
    refine (count_any _ _ (by omega) (by omega) (by omega) (by omega) _).mono ?_
    rintro e w' ⟨rfl, rfl⟩
    go_wp2
    go_ret2
    exact ⟨rfl, hg⟩

theorem bits_some (a : Int) (h : 1 ≤ a) (h' : a ≤ 3) (w : World) :
    Calls Try.prog 43 #[.int .i64 a] w fun e w' => e = .returned (.int .i64 (a + 3)) ∧ w' = w := by
  go_enter Try.func43, Try.ntmps43
  go_wp2
  go_ret
  exact ⟨rfl, rfl⟩
theorem bits_none (a : Int) (h : a < 1 ∨ 3 < a) (w : World) :
    Calls Try.prog 43 #[.int .i64 a] w fun e w' => e = .returned (.int .i64 0) ∧ w' = w := by
  rcases h with h | h
  all_goals
    go_enter Try.func43, Try.ntmps43
    go_wp2
    go_ret
    exact ⟨rfl, rfl⟩

theorem refSize_some (a n : Int) (h : 1 ≤ a) (h' : a ≤ 3) (hn : 0 ≤ n) (hn' : n ≤ 2000000000000000) (w : World) :
    Calls Try.prog 45 #[.int .i64 a, .int .i64 n] w fun e w' => e = .returned (.int .i64 ((8 * n + (a + 3) - 1) / (a + 3))) ∧ w' = w := by
  go_enter Try.func45, Try.ntmps45
  go_wp2_with (go_at_call 43; refine (bits_some a h h' _).mono ?_; rintro e w' ⟨rfl, rfl⟩)
  go_ret
  exact ⟨rfl, rfl⟩

theorem refRoom_none (a n : Int) (h : a < 1 ∨ 3 < a) (w : World) :
    Calls Try.prog 47 #[.int .i64 a, .int .i64 n] w fun e w' => e = .returned (.int .i64 (-1)) ∧ w' = w := by
  have HC := Lib.hid (bits_none a h)
  clear h
  go_enter Try.func47, Try.ntmps47
  go_wp2_with (go_at_call 43; refine (HC.out _).mono ?_; rintro e w' ⟨rfl, rfl⟩)
  go_ret
  exact ⟨rfl, rfl⟩
theorem refRoom_less (a n : Int) (h : 1 ≤ a) (h' : a ≤ 3) (hn : n < 0) (w : World) :
    Calls Try.prog 47 #[.int .i64 a, .int .i64 n] w fun e w' => e = .returned (.int .i64 (-1)) ∧ w' = w := by
  go_enter Try.func47, Try.ntmps47
  go_wp2_with (go_at_call 43; refine (bits_some a h h' _).mono ?_; rintro e w' ⟨rfl, rfl⟩)
  go_ret
  exact ⟨rfl, rfl⟩

/-- How many letters m bytes have. -/
def sizeOfBytes (k m : Int) : Int := (8 * m + k - 1) / k

theorem size_facts (k n m : Int) (hk : 4 ≤ k) (hk' : k ≤ 6) (hn : 0 ≤ n) (hm : n / 8 * k ≤ m) (hb : m = n / 8 * k ∨ sizeOfBytes k (m - 1) < n) :
    0 ≤ m ∧ m ≤ n ∧ (sizeOfBytes k m < n → m < n) ∧ (¬ sizeOfBytes k m < n → (sizeOfBytes k m == n) = fits k n ∧ (sizeOfBytes k m = n → m = roomed k n)) := by
  unfold sizeOfBytes fits roomed at *
  obtain rfl | rfl | rfl : k = 4 ∨ k = 5 ∨ k = 6 := by omega
  all_goals
    refine ⟨by omega, by omega, by omega, fun hx => ⟨?_, by omega⟩⟩
    rw [Bool.eq_iff_iff, beq_iff_eq, beq_iff_eq]
    have hr : n % 8 = 0 ∨ n % 8 = 1 ∨ n % 8 = 2 ∨ n % 8 = 3 ∨ n % 8 = 4 ∨ n % 8 = 5 ∨ n % 8 = 6 ∨ n % 8 = 7 := by omega
    rcases hr with hr | hr | hr | hr | hr | hr | hr | hr <;> rw [hr] <;> omega

set_option maxHeartbeats 1000000 in
/-- The reference's Room: it looks for the least number of bytes that have as many letters. -/
theorem refRoom_some (a n : Int) (h : 1 ≤ a) (h' : a ≤ 3) (hn : 0 ≤ n) (hn' : n ≤ 1125899906842624) (w : World) :
    Calls Try.prog 47 #[.int .i64 a, .int .i64 n] w fun e w' => e = .returned (.int .i64 (if fits (a + 3) n = true then roomed (a + 3) n else -1)) ∧ w' = w := by
  obtain ⟨b1, b2, b3, b4, b5⟩ := prod_bd (a + 3) n (by omega) (by omega) hn (by omega)
  have b6 : n / 8 * (a + 3) ≤ n := (size_facts (a + 3) n (n / 8 * (a + 3)) (by omega) (by omega) hn (Int.le_refl _) (.inl rfl)).2.1
  have hz : (a + 3 == 0) = false := beq_eq_false_iff_ne.2 (by omega)
  obtain ⟨R, hR⟩ : ∃ R, (if fits (a + 3) n = true then roomed (a + 3) n else -1) = R := ⟨_, rfl⟩
  rw [hR]
  have HR := Lib.hid hR
  clear hR
  go_enter Try.func47, Try.ntmps47
  go_wp2_with (go_at_call 43; refine (bits_some a h h' _).mono ?_; rintro e w' ⟨rfl, rfl⟩)
  go_loop [5] (fun t => ∃ m : Int, n / 8 * (a + 3) ≤ m ∧ (m = n / 8 * (a + 3) ∨ sizeOfBytes (a + 3) (m - 1) < n) ∧ t = .int .i64 m) (fun t => (n - intOf t).toNat)
  case atStart => exact ⟨_, Int.le_refl _, .inl rfl, rfl⟩
  case round =>
    obtain ⟨m, hm, hb, rfl⟩ := hrel
    obtain ⟨f1, f2, f3, f4⟩ := size_facts (a + 3) n m (by omega) (by omega) hn hm hb
    by_cases hlt : sizeOfBytes (a + 3) m < n
    · have f5 := f3 hlt
      have HL := Lib.hid hlt
      have Hm := Lib.hid hm
      have e1 : decide ((8 * m + (a + 3) - 1) / (a + 3) < n) = true := by unfold sizeOfBytes at hlt; simpa using hlt
      clear hlt f3 f4 hb
      go_wp2_with (go_at_call 45; refine (refSize_some a m h h' f1 (by omega) _).mono ?_; rintro e w' ⟨rfl, rfl⟩)
      go_round
      case rel => exact ⟨m + 1, by have := Hm.out; omega, .inr (by have := HL.out; simpa using this), rfl⟩
      case measure => simp [intOf]; omega
    · obtain ⟨f5, f6⟩ := f4 hlt
      have e1 : decide ((8 * m + (a + 3) - 1) / (a + 3) < n) = false := by unfold sizeOfBytes at hlt; simpa using hlt
      have H5 := Lib.hid f5
      have H6 := Lib.hid f6
      clear hlt f3 f4 hb f5 f6
      by_cases hf : fits (a + 3) n = true
      · have H7 := Lib.hid ((if_pos hf).symm.trans HR.out)
        have e2 : ((8 * m + (a + 3) - 1) / (a + 3) == n) = true := H5.out.trans hf
        have e3 := Lib.hid (H6.out (eq_of_beq e2))
        clear hf
        go_wp2_with (go_at_call 45; refine (refSize_some a m h h' f1 (by omega) _).mono ?_; rintro e w' ⟨rfl, rfl⟩)
        go_ret
        exact ⟨by rw [← H7.out, ← e3.out]; rfl, rfl⟩
      · have H7 := Lib.hid ((if_neg hf).symm.trans HR.out)
        have e2 : ((8 * m + (a + 3) - 1) / (a + 3) == n) = false := H5.out.trans (Bool.eq_false_iff.2 hf)
        clear hf
        go_wp2_with (go_at_call 45; refine (refSize_some a m h h' f1 (by omega) _).mono ?_; rintro e w' ⟨rfl, rfl⟩)
        go_ret
        exact ⟨by rw [← H7.out]; rfl, rfl⟩
end Go.Proofs.Ytnpfpmfgdefboaa
