/- The document's answer for letters: Bits, Size, bit, letter, Write. -/
import Derived.Test.YtaaiikjjfleooaaOpenBytes
import Derived.Test.YtaaiikjjfleooaaLettRef
namespace Go.Proofs.Ytaaiikjjfleooaa
open Go.RowKit Go.Lib

theorem ret_i64 {a b : Int} (h : a = b) : Ending.returned (.int .i64 a) = .returned (.int .i64 b) := by rw [h]
theorem ret_u8 {a b : Int} (h : a = b) : Ending.returned (.int .u8 a) = .returned (.int .u8 b) := by rw [h]
theorem refBits_some (a : Int) (q : Nat) (ha : (a = 1 ∧ q = 4) ∨ (a = 2 ∧ q = 5) ∨ (a = 3 ∧ q = 6)) (w : World) :
    Calls Try.prog 18 #[.int .i64 a] w fun e w' => e = .returned (.int .i64 q) ∧ w = w' := by
  rcases ha with ⟨rfl, rfl⟩ | ⟨rfl, rfl⟩ | ⟨rfl, rfl⟩
  all_goals
    go_enter Try.func18, Try.ntmps18
    go_wp2
    go_ret
    exact ⟨rfl, rfl⟩
theorem refBits_none (a : Int) (h : a < 1 ∨ 3 < a) (w : World) :
    Calls Try.prog 18 #[.int .i64 a] w fun e w' => e = .returned (.int .i64 0) ∧ w = w' := by
  rcases h with h | h
  all_goals
    go_enter Try.func18, Try.ntmps18
    go_wp2
    go_ret
    exact ⟨rfl, rfl⟩

set_option maxHeartbeats 1000000 in
theorem refSize_nat (a : Int) (q n : Nat) (ha : (a = 1 ∧ q = 4) ∨ (a = 2 ∧ q = 5) ∨ (a = 3 ∧ q = 6)) (hn : n ≤ 1125899906842624) (w : World) :
    Calls Try.prog 26 #[.int .i64 a, .int .i64 n] w fun e w' => e = .returned (.int .i64 ((8 * n + q - 1) / q : Nat)) ∧ w = w' := by
  have hq0 : 4 ≤ q := by omega
  have hq1 : q ≤ 6 := by omega
  have HB := Lib.hid (refBits_some a q ha)
  have e : ((8 * n + q - 1) / q : Nat) = (8 * (n : Int) + (q : Int) - 1) / (q : Int) := by
    rw [Int.natCast_ediv]; congr 1; omega
  rw [e]
  have hz : (((q : Nat) : Int) == 0) = false := beq_eq_false_iff_ne.2 (by omega)
  clear ha e
  go_enter Try.func26, Try.ntmps26
  go_wp2_with fail
  refine (HB.out _).mono ?_
  rintro e w1 ⟨rfl, rfl⟩
  go_wp2_with fail
  go_ret
  exact ⟨rfl, rfl⟩

set_option maxHeartbeats 1000000 in
theorem bit_any (b K : Nat) (p : Option Addr) (cap i : Nat) (l : List UInt8) (w : World) (hB : Bytes b K p l w) (hl : l.length ≤ 1125899906842624) (hi : i ≤ 1125899906842624) :
    Calls Try.prog 37 #[.slice p l.length cap, .int .i64 i] w fun e w' => e = .returned (.int .i64 (bitAt l i)) ∧ w = w' := by
  unfold bitAt
  by_cases h : i / 8 < l.length
  · rw [if_pos h]
    obtain ⟨pb, off, rfl, _, _, hc⟩ := hB (by intro e; rw [e] at h; simp at h)
    have hc' := hc (i / 8) h
    have hx : l.getD (i / 8) 0 = l[i / 8] := by rw [List.getD_eq_getElem?_getD, List.getElem?_eq_getElem h, Option.getD_some]
    rw [hx]
    have HX := Lib.hid hx
    clear hx hc
    have hlt := l[i / 8].toNat_lt
    generalize l[i / 8] = x at *
    obtain ⟨n, hn⟩ : ∃ n, l.length = n := ⟨_, rfl⟩
    have hin : i / 8 < n := by omega
    rw [hn]
    clear hn h hl hB
    go_enter Try.func37, Try.ntmps37
    go_wp2_with fail
    go_ret
    have hb := bits_mask .i64 63 (by decide) (fun m h0 h1 => by rw [IntKind.wrap_i64]; omega) 1 (by decide) ((x.toNat : Int) / 2 ^ (7 - i % 8)) (Int.ediv_nonneg (by omega) (by exact_mod_cast Nat.zero_le _)) (by
      have h2 : ((x.toNat / 2 ^ (7 - i % 8) : Nat) : Int) = (x.toNat : Int) / 2 ^ (7 - i % 8) := by rw [Int.natCast_ediv, Int.natCast_pow]; rfl
      have h3 : x.toNat / 2 ^ (7 - i % 8) ≤ x.toNat := Nat.div_le_self _ _
      rw [← h2]
      omega)
    refine ⟨ret_i64 (hb.trans ?_), rfl⟩
    rw [Int.natCast_emod, Int.natCast_ediv, Int.natCast_pow]
    rfl
  · rw [if_neg h]
    go_enter Try.func37, Try.ntmps37
    go_wp2_with fail
    go_ret
    exact ⟨rfl, rfl⟩

theorem lett_low (a : Int) (q : Nat) (ha : (a = 1 ∧ q = 4) ∨ (a = 2 ∧ q = 5)) (n : Nat) (h : n < 2 ^ q) : (lett a n).toNat = if n < 10 then 48 + n else 97 + n - 10 := by
  have d4 : ∀ i : Fin 16, (lett 1 i.1).toNat = if i.1 < 10 then 48 + i.1 else 97 + i.1 - 10 := by decide +kernel
  have d5 : ∀ i : Fin 32, (lett 2 i.1).toNat = if i.1 < 10 then 48 + i.1 else 97 + i.1 - 10 := by decide +kernel
  rcases ha with ⟨rfl, rfl⟩ | ⟨rfl, rfl⟩
  · exact d4 ⟨n, h⟩
  · exact d5 ⟨n, h⟩
theorem lett_web (n : Nat) (h : n < 64) : (lett 3 n).toNat = if n < 26 then 65 + n else if n < 52 then 97 + n - 26 else if n < 62 then 48 + n - 52 else if n = 62 then 45 else 95 := by
  have d6 : ∀ i : Fin 64, (lett 3 i.1).toNat = if i.1 < 26 then 65 + i.1 else if i.1 < 52 then 97 + i.1 - 26 else if i.1 < 62 then 48 + i.1 - 52 else if i.1 = 62 then 45 else 95 := by decide +kernel
  exact d6 ⟨n, h⟩

set_option maxHeartbeats 1000000 in
theorem letter_any (a : Int) (q n : Nat) (ha : (a = 1 ∧ q = 4) ∨ (a = 2 ∧ q = 5) ∨ (a = 3 ∧ q = 6)) (hn : n < 2 ^ q) (w : World) :
    Calls Try.prog 38 #[.int .i64 a, .int .i64 n] w fun e w' => e = .returned (.int .u8 (lett a n).toNat) ∧ w = w' := by
  by_cases h3 : a = 3
  · obtain ⟨rfl, rfl⟩ : a = 3 ∧ q = 6 := by omega
    have hv := lett_web n hn
    have hn' : n < 64 := hn
    obtain ⟨v, hv'⟩ : ∃ v, (lett 3 n).toNat = v := ⟨_, rfl⟩
    rw [hv'] at hv ⊢
    have HV := Lib.hid hv
    clear hv hv' ha
    by_cases h62 : n = 62
    · subst h62
      go_enter Try.func38, Try.ntmps38
      go_wp2_with fail
      go_ret
      exact ⟨by rw [HV.out]; rfl, rfl⟩
    · have e62 : (((n : Nat) : Int) == 62) = false := beq_eq_false_iff_ne.2 (by omega)
      go_enter Try.func38, Try.ntmps38
      go_wp2_with fail
      all_goals
        go_ret
        exact ⟨ret_u8 (by rw [HV.out]; (repeat' split) <;> omega), rfl⟩
  · have e3 : (a == 3) = false := beq_eq_false_iff_ne.2 h3
    have hv := lett_low a q (by omega) n hn
    have hn' : n < 32 := by
      have : (2 : Nat) ^ q ≤ 32 := by
        obtain rfl | rfl : q = 4 ∨ q = 5 := by omega
        all_goals decide
      omega
    obtain ⟨v, hv'⟩ : ∃ v, (lett a n).toNat = v := ⟨_, rfl⟩
    rw [hv'] at hv ⊢
    have HV := Lib.hid hv
    clear hv hv' ha h3 hn
    go_enter Try.func38, Try.ntmps38
    go_wp2_with fail
    all_goals
      go_ret
      exact ⟨ret_u8 (by rw [HV.out]; (repeat' split) <;> omega), rfl⟩

/-- The text of a row of bytes of the call's own. -/
theorem owns_text {w : World} {B n : Nat} {o : Value} {L : List UInt8} (h : w.ownsRow B 5 1 o n (byteCells L)) (hn : L.length = n) :
    (convert 22 9 o).run Try.prog w = .ok (.string ⟨L.toArray⟩) w := by
  subst hn
  have hc := fun g hg => h.cells (g := g) hg
  rcases h.2 with ⟨rfl, h0⟩ | ⟨g, cap, cur, rfl, _⟩
  · obtain rfl : L = [] := List.eq_nil_of_length_eq_zero h0
    rw [run_convert_bytes_string w 22 9 5 none _ _ Try.underlying22 Try.underlying5 Try.underlying9]
    rfl
  · refine run_convert_bytes_back w 22 9 5 ⟨g, 0, none⟩ cap L Try.underlying22 Try.underlying5 Try.underlying9 fun j hj => ?_
    refine hc g rfl j _ ?_
    simp [byteCells, List.getElem?_eq_getElem hj]

set_option maxRecDepth 100000 in
set_option maxHeartbeats 4000000 in
theorem refWrite_some (a : Int) (q : Nat) (ha : (a = 1 ∧ q = 4) ∨ (a = 2 ∧ q = 5) ∨ (a = 3 ∧ q = 6)) (p : Option Addr) (cap : Nat) (l : List UInt8) (w : World)
    (hB : Bytes w.heap.size w.heap.size p l w) (hlen : l.length ≤ 134217728) :
    Calls Try.prog 16 #[.int .i64 a, .slice p l.length cap] w fun e w' => e = .returned (.string ⟨((allNums q l).map (lett a)).toArray⟩) ∧ Below w.heap.size w w' := by
  obtain ⟨i0, hi, hz0, hz1, hz2⟩ := info_parts infoByte
  have hq0 : 4 ≤ q := by omega
  have hq1 : q ≤ 6 := by omega
  have hM := all_len q (by omega) l
  obtain ⟨M, hMM⟩ : ∃ M, (allNums q l).length = M := ⟨_, rfl⟩
  have hML : M ≤ 268435457 ∧ (8 * l.length + q - 1) / q = M := by
    rw [← hMM, hM]
    refine ⟨?_, rfl⟩
    obtain rfl | rfl | rfl : q = 4 ∨ q = 5 ∨ q = 6 := by omega
    all_goals omega
  obtain ⟨hM1, hM2⟩ := hML
  have HM2 := Lib.hid hM2
  have HMM := Lib.hid hMM
  have HS := Lib.hid (fun w => refSize_nat a q l.length ha (by omega) w)
  rw [hM2] at HS
  clear hM hM2 hMM
  have HBits := Lib.hid (refBits_some a q ha)
  have HB := Lib.hid hB
  have HBit := Lib.hid (fun (i : Nat) (hi : i ≤ 1125899906842624) (v : World) (h : Bytes w.heap.size w.heap.size p l v) => bit_any w.heap.size w.heap.size p cap i l v h (by omega) hi)
  obtain ⟨n1, hn1⟩ : ∃ n, l.length = n := ⟨_, rfl⟩
  rw [hn1] at HS HBit hlen ⊢
  clear hn1
  go_enter Try.func16, Try.ntmps16
  go_wp2_with fail
  refine (HBits.out _).mono ?_
  rintro e w1 ⟨rfl, rfl⟩
  go_wp2_with fail
  go_loopw [6, 7] (fun o v wr => ∃ i : Nat, i ≤ M ∧ v = .int .i64 i ∧ wr.ownsRow w.heap.size 5 1 o i (byteCells (((allNums q l).map (lett a)).take i)) ∧ Below w.heap.size w wr) (fun _ v _ => M - (RowKit.intOf v).toNat)
  case atStart => exact ⟨0, Nat.zero_le _, rfl, World.ownsRow_nil _ _ _ _, Below.refl _ _⟩
  case round =>
    obtain ⟨i, hi', rfl, hown, hb⟩ := hrel
    have sb := hb.size
    by_cases hlt : i < M
    · have hiq : i * q ≤ 268435457 * 6 := Nat.mul_le_mul (by omega) hq1
      go_wp2_with fail
      refine (HS.out _).mono ?_
      rintro e w1 ⟨rfl, rfl⟩
      go_wp2_with fail
      obtain ⟨wo, rfl⟩ : ∃ wo : World, wo = wr := ⟨_, rfl⟩
      go_loop [8, 9] (fun x v => ∃ j : Nat, j ≤ q ∧ v = .int .i64 j ∧ x = .int .i64 (part q l i j)) (fun _ v => q - (RowKit.intOf v).toNat)
      case atStart => exact ⟨0, Nat.zero_le _, rfl, by rw [part_zero]; rfl⟩
      case round =>
        obtain ⟨j, hj, rfl, rfl⟩ := hrel
        by_cases hjq : j < q
        · have hps := part_succ q (by omega) l i j (by
            rw [HMM.out]
            have h1 : (i + 1) * q ≤ M * q := Nat.mul_le_mul_right q hlt
            rw [Nat.add_mul, Nat.one_mul] at h1
            rw [Nat.mul_comm q M]
            omega)
          have hpl := part_lt q l i j
          have hp2 : (2 : Nat) ^ j ≤ 64 := by
            have : (2 : Nat) ^ j ≤ 2 ^ 6 := Nat.pow_le_pow_right (by decide) (by omega)
            exact this
          have hbl : bitAt l (i * q + j) ≤ 1 := by
            unfold bitAt
            split
            · omega
            · omega
          have HP := Lib.hid hps
          clear hps
          have hpl' : part q l i j ≤ 64 := by omega
          go_wp2_with fail
          rw [show ((i : Int) * (q : Int) + (j : Int)) = ((i * q + j : Nat) : Int) by rw [Int.natCast_add, Int.natCast_mul]]
          refine (HBit.out (i * q + j) (by omega) _ (HB.out.keep hb)).mono ?_
          rintro e w1 ⟨rfl, rfl⟩
          go_wp2_with fail
          go_round
          case rel => exact ⟨j + 1, by omega, by go_num, by rw [HP.out]; go_num⟩
          case measure => simp [RowKit.intOf]; omega
        · obtain rfl : j = q := by omega
          have hpl := part_lt j l i j
          have hat := all_at j (by omega) l i (by rw [HMM.out]; exact hlt)
          have HAT := Lib.hid hat
          have HPL := Lib.hid hpl
          clear hat hpl
          go_wp2_with fail
          refine (letter_any a j _ ha HPL.out _).mono ?_
          rintro e w1 ⟨rfl, rfl⟩
          have s2 := hb.size
          go_wp2_with (at_builtin; refine wpList_append_own _ rfl _ _ 22 rfl w.heap.size 5 i0 (.int .u8 0) 1 1 Try.underlying22 hi hz0 hz1 hz2 rfl (by decide) _ _ _ rfl (hown.alloc _) ⟨wo.heap.size, 0, none⟩ 1 1 [.int .u8 (lett a (part j l i j)).toNat] rfl rfl ?c1 ?c2 ?c3 ?c4 ?c5 ?_)
          case c1 =>
            intro j u hj
            match j, hj with
            | 0, hj => simp at hj; subst hj; simp [Addr.add]
          case c2 => intro u hu; simp at hu; subst hu; rfl
          case c3 => unfold maxLen; omega
          case c4 => omega
          case c5 => simp; omega
          intro v' w2 hown' hgrow _
          have hb2 := ((hb.alloc (by omega) _).grown hgrow (by simp; omega) (fun k hk => (hown.lt k hk).1))
          clear hgrow hown
          go_wp2_with fail
          go_roundw
          case rel =>
            refine ⟨i + 1, by omega, by go_num, ?_, hb2⟩
            have hl : i < ((allNums j l).map (lett a)).length := by rw [List.length_map, HMM.out]; exact hlt
            rw [List.take_succ_eq_append_getElem hl, List.getElem_map, HAT.out, byteCells_append]
            exact hown'
          case measure => simp [RowKit.intOf]; omega
    · obtain rfl : i = M := by omega
      have ht : ((allNums q l).map (lett a)).take i = (allNums q l).map (lett a) := List.take_of_length_le (by rw [List.length_map, HMM.out]; exact Nat.le_refl _)
      rw [ht] at hown
      have hcv := owns_text hown (by rw [List.length_map, HMM.out])
      clear ht hown
      go_wp2_with fail
      refine (HS.out _).mono ?_
      rintro e w1 ⟨rfl, rfl⟩
      go_wp2_with fail
      go_ret
      exact ⟨rfl, hb⟩
end Go.Proofs.Ytaaiikjjfleooaa
