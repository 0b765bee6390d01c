/- The contracts of utf's Count and Check, and of affidavitref03's Units. -/
import Derived.Test.YtjbhehkkigopmaaUtfRunes
import Derived.Test.YtjbhehkkigopmaaUtfDec
import Derived.Lib.OthersKept
namespace Go.Proofs.Ytjbhehkkigopmaa
open Go.RowKit Go.Joins Go.Lib

/-- A place of a right text at which a form begins, or its end. -/
def RightAt (l : List UInt8) (i : Nat) : Prop := i ≤ l.length ∧ ∃ c : Cur, c.left = 0 ∧ chk l 0 cur0 = chk (l.drop i) i c
theorem rightAt_zero (l : List UInt8) : RightAt l 0 := ⟨Nat.zero_le _, cur0, rfl, rfl⟩
theorem rightAt_next {l : List UInt8} {i : Nat} (hr : rt l = true) (h : RightAt l i) (hi : i < l.length) : ∃ r n, formAt (l.drop i) = .ok r n ∧ 1 ≤ n ∧ n ≤ 4 ∧ i + n ≤ l.length ∧ r ≤ 1114111 ∧ RightAt l (i + n) := by
  obtain ⟨h1, c, h2, h3⟩ := h
  have hw := (wrongS_rt l).1 hr
  have hof := (wrongS_of l i c h3 h2 h1).2 hi
  cases hf : formAt (l.drop i) with
  | ok r n =>
    obtain ⟨k1, k2, k3, d, k4, k5⟩ := hof _ hf
    have hs := (form_enc hf).1
    unfold scalar at hs
    exact ⟨r, n, rfl, k1, k2, k3, by omega, k3, d, k4, k5⟩
  | byte k => obtain ⟨k1, _⟩ := hof _ hf; rw [k1] at hw; cases hw
  | cut => obtain ⟨k1, _⟩ := hof _ hf; rw [k1] at hw; cases hw

set_option maxRecDepth 100000 in
theorem width_any (r : Int) (w : World) : Calls Try.prog 48 #[.int .i32 r] w fun e w' => e = .returned (.int .i64 (if r < 65536 then 1 else 2)) ∧ w = w' := by
  by_cases h : r < 65536
  all_goals
    go_enter Try.func48, Try.ntmps48
    go_wp2
    go_ret
    exact ⟨by simp, rfl⟩
theorem width_units (r : Nat) (w : World) : Calls Try.prog 48 #[.int .i32 (r : Int)] w fun e w' => e = .returned (.int .i64 ((unitsOf r).length : Nat)) ∧ w = w' := by
  have h := width_any (r : Int) w
  have e : (if (r : Int) < 65536 then (1 : Int) else 2) = ((unitsOf r).length : Nat) := by rw [unitsOf_len]; (repeat' split) <;> omega
  rw [e] at h
  exact h

theorem wrongAs_iface (l : List UInt8) (h : rt l = false) : wrongAs (chk l 0 cur0) = .iface 81 (.agg #[.int .i64 (wrongS l).1, .int .i64 (wrongS l).2]) ∧ (wrongS l).1 ≠ 0 := by
  unfold rt at h
  unfold wrongAs wrongS
  cases h1 : (chk l 0 cur0).2.1
  · by_cases h2 : 0 < (chk l 0 cur0).2.2.left
    · simp [h2]
    · rw [h1] at h; simp at h; omega
  · simp
theorem wrongAs_nil (l : List UInt8) (h : rt l = true) : wrongAs (chk l 0 cur0) = .nilIface := by
  rcases wrongAs_right l with ⟨_, h2⟩ | ⟨h1, _⟩
  · exact h2
  · rw [h] at h1; cases h1

set_option maxRecDepth 100000 in
set_option maxHeartbeats 2000000 in
theorem count_wrong (s : ByteArray) (hs : s.size ≤ 4294967296) (hr : rt s.data.toList = false) (w : World) :
    Calls Try.prog 21 #[.string s] w fun e w' => e = .returned (.tuple #[.int .i64 0, .int .i64 0, .iface 81 (.agg #[.int .i64 (wrongS s.data.toList).1, .int .i64 (wrongS s.data.toList).2])]) ∧ Below w.heap.size w w' := by
  have HC := Lib.hid (check_text s (by omega))
  rw [(wrongAs_iface _ hr).1] at HC
  clear hr
  go_enter Try.func21, Try.ntmps21
  go_wp2_with fail
  refine (HC.out _).mono ?_
  rintro e w1 ⟨rfl, hb⟩
  go_wp2_with fail
  go_returns
  exact ⟨rfl, hb⟩

def unitsLen (xs : List (Nat × Nat)) : Nat := (xs.flatMap fun x => unitsOf x.1).length
theorem unitsLen_snoc (xs : List (Nat × Nat)) (r i : Nat) : unitsLen (xs ++ [(r, i)]) = unitsLen xs + (unitsOf r).length := by
  unfold unitsLen
  rw [List.flatMap_append, List.length_append]
  simp
theorem unitsLen_le (xs : List (Nat × Nat)) : unitsLen xs ≤ 2 * xs.length := by
  induction xs with
  | nil => exact Nat.zero_le _
  | cons x t ih =>
    have e : unitsLen (x :: t) = (unitsOf x.1).length + unitsLen t := by simp [unitsLen]
    have := unitsOf_len x.1
    rw [e, List.length_cons]
    split at this <;> omega

set_option maxRecDepth 100000 in
set_option maxHeartbeats 8000000 in
theorem count_right (s : ByteArray) (hs : s.size ≤ 4294967296) (hr : rt s.data.toList = true) (w : World) :
    Calls Try.prog 21 #[.string s] w fun e w' => e = .returned (.tuple #[.int .i64 (runesOf s.data.toList 0).length, .int .i64 (unitsS s.data.toList).length, .nilIface]) ∧ Below w.heap.size w w' := by
  have HC := Lib.hid (check_text s (by omega))
  rw [wrongAs_nil _ hr] at HC
  have hlen : s.data.toList.length = s.size := Array.length_toList
  have HD := Lib.hid (fun i r n h => decode_form s i r n h)
  have hul : (unitsS s.data.toList).length = unitsLen (runesOf s.data.toList 0) := rfl
  rw [hul]
  clear hul
  obtain ⟨l, hl⟩ : ∃ l, s.data.toList = l := ⟨_, rfl⟩
  rw [hl] at hlen hr HD ⊢
  obtain ⟨R, hR⟩ : ∃ R, runesOf l 0 = R := ⟨_, rfl⟩
  rw [hR]
  have HR := Lib.hid hR
  have HL := Lib.hid hlen
  have HRT := Lib.hid hr
  clear hl hlen hr hR
  go_enter Try.func21, Try.ntmps21
  go_wp2_with fail
  refine (HC.out _).mono ?_
  rintro e w1 ⟨rfl, hb⟩
  go_wp2_with fail
  go_loopw [6, 7] (fun a b wr => ∃ (i : Nat) (xs : List (Nat × Nat)), a = .int .i64 xs.length ∧ b = .int .i64 (unitsLen xs) ∧ xs.length ≤ i ∧ Hid (xs ++ runesOf (l.drop i) i = R) ∧ Hid (RightAt l i) ∧ wr.heap[w1.heap.size]? = some (.stringIter s i) ∧ Below w.heap.size w wr ∧ i ≤ s.size)
    (fun _ _ wr => s.size - wr.iterPos w1.heap.size)
  case atStart => exact ⟨0, [], rfl, rfl, Nat.le_refl _, HR, rightAt_zero l, World.iter_heap _ _ _, hb.alloc hb.size _, Nat.zero_le _⟩
  case round =>
    obtain ⟨i, xs, rfl, rfl, hxs, hk, hra, hit, hbw, hi⟩ := hrel
    have s1 := hb.size
    have hul := unitsLen_le xs
    by_cases hlt : i < s.size
    · obtain ⟨r, n, hf, hn1, hn4, hin, hr31, hra2⟩ := rightAt_next HRT.out hra.out (by rw [HL.out]; exact hlt)
      rw [HL.out] at hin
      have hnx : ∀ ty, (Instr.next (.pointer (some ⟨w1.heap.size, 0, none⟩)) true ty).run Try.prog wr = _ := fun ty => Lib.run_next_any_at wr w1.heap.size s i ty hit hlt
      rw [HD.out i r n hf] at hnx
      have hit2 := Lib.iterAt_heap wr w1.heap.size s i (i + n) hit
      have hbw2 := Lib.below_iterAt hbw (k := w1.heap.size) s1 s (i + n)
      have hk2 := hk.out
      rw [runesOf_ok hf, List.drop_drop] at hk2
      have HK := Lib.hid hk2
      have HRA := Lib.hid hra2
      have hsn := unitsLen_snoc xs r i
      have hu2 := unitsOf_len r
      have hu3 : (unitsOf r).length ≤ 2 := by split at hu2 <;> omega
      have HSN := Lib.hid hsn
      have HIT := Lib.hid hit
      clear hf hk hk2 hra hra2 hsn hu2 hit hr31
      simp only at hnx
      go_wp2_with fail
      refine (width_units r _).mono ?_
      rintro e w2 ⟨rfl, rfl⟩
      go_wp2_with fail
      go_roundw
      case rel => exact ⟨i + n, xs ++ [(r, i)], by rw [List.length_append, List.length_singleton]; go_num, by rw [HSN.out]; go_num, by rw [List.length_append, List.length_singleton]; omega, by refine Lib.hid ?_; rw [List.append_assoc]; exact HK.out, HRA, hit2, hbw2, hin⟩
      case measure => simp only [World.iterPos, hit2, HIT.out]; omega
    · have hnx : ∀ ty, (Instr.next (.pointer (some ⟨w1.heap.size, 0, none⟩)) true ty).run Try.prog wr = _ := fun ty => Lib.run_next_end_at wr w1.heap.size s i ty hit hlt
      have hk2 := hk.out
      rw [List.drop_of_length_le (by rw [HL.out]; omega), runesOf_nil, List.append_nil] at hk2
      subst hk2
      clear hk hra
      go_wp2_with fail
      go_returns
      exact ⟨rfl, hbw⟩
end Go.Proofs.Ytjbhehkkigopmaa
