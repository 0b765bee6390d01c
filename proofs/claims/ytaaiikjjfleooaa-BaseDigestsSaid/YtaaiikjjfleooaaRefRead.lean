/- The contracts of the document's answer for reading letters: number, Room, Read. -/
import Derived.Test.YtaaiikjjfleooaaPlaceMath
import Derived.Test.YtaaiikjjfleooaaRefWrite
import Derived.Test.YtaaiikjjfleooaaRead
namespace Go.Proofs.Ytaaiikjjfleooaa
open Go.RowKit Go.Lib

/-- How many bytes n letters are, if some are as many. -/
def roomed (k n : Int) : Int := n / 8 * k + n % 8 * k / 8
/-- Are there bytes of n letters? -/
def fits (k n : Int) : Bool := (8 * (n % 8 * k / 8) + k - 1) / k == n % 8

theorem bits_int (a : Int) (h : 1 ≤ a) (h' : a ≤ 3) (w : World) :
    Calls Try.prog 18 #[.int .i64 a] w fun e w' => e = .returned (.int .i64 (a + 3)) ∧ w' = w := by
  go_enter Try.func18, Try.ntmps18
  go_wp2
  go_ret
  exact ⟨rfl, rfl⟩
theorem bits_off (a : Int) (h : a < 1 ∨ 3 < a) (w : World) :
    Calls Try.prog 18 #[.int .i64 a] w fun e w' => e = .returned (.int .i64 0) ∧ w' = w := by
  rcases h with h | h
  all_goals
    go_enter Try.func18, Try.ntmps18
    go_wp2
    go_ret
    exact ⟨rfl, rfl⟩

theorem refSize_some (a n : Int) (h : 1 ≤ a) (h' : a ≤ 3) (hn : 0 ≤ n) (hn' : n ≤ 2000000000000000) (w : World) :
    Calls Try.prog 26 #[.int .i64 a, .int .i64 n] w fun e w' => e = .returned (.int .i64 ((8 * n + (a + 3) - 1) / (a + 3))) ∧ w' = w := by
  go_enter Try.func26, Try.ntmps26
  go_wp2_with (go_at_call 18; refine (bits_int a h h' _).mono ?_; rintro e w' ⟨rfl, rfl⟩)
  go_ret
  exact ⟨rfl, rfl⟩

/-- How many letters m bytes have. -/
def sizeOfBytes (k m : Int) : Int := (8 * m + k - 1) / k

theorem size_facts (k n m : Int) (hk : 4 ≤ k) (hk' : k ≤ 6) (hn : 0 ≤ n) (hm : n / 8 * k ≤ m) (hb : m = n / 8 * k ∨ sizeOfBytes k (m - 1) < n) :
    0 ≤ m ∧ m ≤ n ∧ (sizeOfBytes k m < n → m < n) ∧ (¬ sizeOfBytes k m < n → (sizeOfBytes k m == n) = fits k n ∧ (sizeOfBytes k m = n → m = roomed k n)) := by
  unfold sizeOfBytes fits roomed at *
  obtain rfl | rfl | rfl : k = 4 ∨ k = 5 ∨ k = 6 := by omega
  all_goals
    refine ⟨by omega, by omega, by omega, fun hx => ⟨?_, by omega⟩⟩
    rw [Bool.eq_iff_iff, beq_iff_eq, beq_iff_eq]
    have hr : n % 8 = 0 ∨ n % 8 = 1 ∨ n % 8 = 2 ∨ n % 8 = 3 ∨ n % 8 = 4 ∨ n % 8 = 5 ∨ n % 8 = 6 ∨ n % 8 = 7 := by omega
    rcases hr with hr | hr | hr | hr | hr | hr | hr | hr <;> rw [hr] <;> omega

set_option maxHeartbeats 1000000 in
/-- The reference's Room: it looks for the least number of bytes that have as many letters. -/
theorem refRoom_some (a n : Int) (h : 1 ≤ a) (h' : a ≤ 3) (hn : 0 ≤ n) (hn' : n ≤ 1125899906842624) (w : World) :
    Calls Try.prog 28 #[.int .i64 a, .int .i64 n] w fun e w' => e = .returned (.int .i64 (if fits (a + 3) n = true then roomed (a + 3) n else -1)) ∧ w' = w := by
  obtain ⟨b1, b2, b3, b4, b5⟩ := prod_bd (a + 3) n (by omega) (by omega) hn (by omega)
  have b6 : n / 8 * (a + 3) ≤ n := (size_facts (a + 3) n (n / 8 * (a + 3)) (by omega) (by omega) hn (Int.le_refl _) (.inl rfl)).2.1
  have hz : (a + 3 == 0) = false := beq_eq_false_iff_ne.2 (by omega)
  obtain ⟨R, hR⟩ : ∃ R, (if fits (a + 3) n = true then roomed (a + 3) n else -1) = R := ⟨_, rfl⟩
  rw [hR]
  have HR := Lib.hid hR
  clear hR
  go_enter Try.func28, Try.ntmps28
  go_wp2_with (go_at_call 18; refine (bits_int a h h' _).mono ?_; rintro e w' ⟨rfl, rfl⟩)
  go_loop [5] (fun t => ∃ m : Int, n / 8 * (a + 3) ≤ m ∧ (m = n / 8 * (a + 3) ∨ sizeOfBytes (a + 3) (m - 1) < n) ∧ t = .int .i64 m) (fun t => (n - RowKit.intOf t).toNat)
  case atStart => exact ⟨_, Int.le_refl _, .inl rfl, rfl⟩
  case round =>
    obtain ⟨m, hm, hb, rfl⟩ := hrel
    obtain ⟨f1, f2, f3, f4⟩ := size_facts (a + 3) n m (by omega) (by omega) hn hm hb
    by_cases hlt : sizeOfBytes (a + 3) m < n
    · have f5 := f3 hlt
      have HL := Lib.hid hlt
      have Hm := Lib.hid hm
      have e1 : decide ((8 * m + (a + 3) - 1) / (a + 3) < n) = true := by unfold sizeOfBytes at hlt; simpa using hlt
      clear hlt f3 f4 hb
      go_wp2_with (go_at_call 26; refine (refSize_some a m h h' f1 (by omega) _).mono ?_; rintro e w' ⟨rfl, rfl⟩)
      go_round
      case rel => exact ⟨m + 1, by have := Hm.out; omega, .inr (by have := HL.out; simpa using this), rfl⟩
      case measure => simp [RowKit.intOf]; omega
    · obtain ⟨f5, f6⟩ := f4 hlt
      have e1 : decide ((8 * m + (a + 3) - 1) / (a + 3) < n) = false := by unfold sizeOfBytes at hlt; simpa using hlt
      have H5 := Lib.hid f5
      have H6 := Lib.hid f6
      clear hlt f3 f4 hb f5 f6
      by_cases hf : fits (a + 3) n = true
      · have H7 := Lib.hid ((if_pos hf).symm.trans HR.out)
        have e2 : ((8 * m + (a + 3) - 1) / (a + 3) == n) = true := H5.out.trans hf
        have e3 := Lib.hid (H6.out (eq_of_beq e2))
        clear hf
        go_wp2_with (go_at_call 26; refine (refSize_some a m h h' f1 (by omega) _).mono ?_; rintro e w' ⟨rfl, rfl⟩)
        go_ret
        exact ⟨by rw [← H7.out, ← e3.out]; rfl, rfl⟩
      · have H7 := Lib.hid ((if_neg hf).symm.trans HR.out)
        have e2 : ((8 * m + (a + 3) - 1) / (a + 3) == n) = false := H5.out.trans (Bool.eq_false_iff.2 hf)
        clear hf
        go_wp2_with (go_at_call 26; refine (refSize_some a m h h' f1 (by omega) _).mono ?_; rintro e w' ⟨rfl, rfl⟩)
        go_ret
        exact ⟨by rw [← H7.out]; rfl, rfl⟩

theorem refRoom_nat (a : Int) (q n : Nat) (ha : (a = 1 ∧ q = 4) ∨ (a = 2 ∧ q = 5) ∨ (a = 3 ∧ q = 6)) (hn : n ≤ 1125899906842624) (w : World) :
    Calls Try.prog 28 #[.int .i64 a, .int .i64 n] w fun e w' => e = .returned (.int .i64 (if fitB q n = true then ((q * n / 8 : Nat) : Int) else -1)) ∧ w = w' := by
  have h := refRoom_some a n (by omega) (by omega) (by omega) (by omega) w
  obtain ⟨hF, _⟩ := fit_facts q n (by omega) (by omega)
  have e5 : ((n % 8 * q / 8 : Nat) : Int) = (n : Int) % 8 * (q : Int) / 8 := by push_cast; rfl
  have e0 : (8 * ((n : Int) % 8 * (q : Int) / 8) + (q : Int) - 1) / (q : Int) = (((8 * (n % 8 * q / 8) + q - 1) / q : Nat) : Int) := by
    rw [Int.natCast_ediv, ← e5]
    congr 1
    generalize n % 8 * q / 8 = z
    omega
  have e1 : roomed (a + 3) n = ((q * n / 8 : Nat) : Int) := by
    rw [← hF, show a + 3 = (q : Int) by omega]; unfold roomed; push_cast; rfl
  have e2 : fits (a + 3) n = fitB q n := by
    rw [show a + 3 = (q : Int) by omega]
    unfold fits fitB
    rw [e0, Bool.eq_iff_iff, beq_iff_eq, decide_eq_true_eq]
    omega
  rw [e1, e2] at h
  exact h.mono fun e w' ⟨h1, h2⟩ => ⟨h1, h2.symm⟩

set_option maxRecDepth 100000 in
set_option maxHeartbeats 1000000 in
theorem number_any (a : Int) (q : Nat) (ha : (a = 1 ∧ q = 4) ∨ (a = 2 ∧ q = 5) ∨ (a = 3 ∧ q = 6)) (c : UInt8) (w : World) :
    Calls Try.prog 40 #[.int .i64 a, .int .u8 c.toNat] w fun e w' => e = .returned (.int .i64 (no a c)) ∧ w = w' := by
  have hq0 : 4 ≤ q := by omega
  have hq1 : q ≤ 6 := by omega
  have HBits := Lib.hid (refBits_some a q ha)
  have h64 : (2 : Nat) ^ q ≤ 64 := by
    obtain rfl | rfl | rfl : q = 4 ∨ q = 5 ∨ q = 6 := by omega
    all_goals decide
  have h2 : (2 : Int) ^ q = ((2 ^ q : Nat) : Int) := by rw [Int.natCast_pow]; rfl
  obtain ⟨N, hN⟩ : ∃ N : Nat, 2 ^ q = N := ⟨_, rfl⟩
  rw [hN] at h64 h2
  have HNN := Lib.hid hN
  have HA := Lib.hid ha
  have hc := c.toNat_lt
  clear hN ha
  go_enter Try.func40, Try.ntmps40
  go_wp2_with fail
  obtain ⟨wo, rfl⟩ : ∃ wo : World, wo = w := ⟨_, rfl⟩
  go_loop [5] (fun v => ∃ n : Nat, n ≤ N ∧ v = .int .i64 n ∧ ∀ m, m < n → lett a m ≠ c) (fun v => N - (RowKit.intOf v).toNat)
  case atStart => exact ⟨0, Nat.zero_le _, rfl, fun m hm => by omega⟩
  case round =>
    obtain ⟨n, hn, rfl, hno⟩ := hrel
    have HNo := Lib.hid hno
    clear hno
    by_cases hlt : n < N
    · by_cases he : (lett a n).toNat = c.toNat
      · have hd : (((lett a n).toNat : Int) == (c.toNat : Int)) = true := by rw [he]; exact beq_self_eq_true _
        have HE := Lib.hid he
        clear he
        go_wp2_with fail
        refine (HBits.out _).mono ?_
        rintro e w1 ⟨rfl, rfl⟩
        go_wp2_with fail
        refine (letter_any a q n HA.out (by rw [HNN.out]; exact hlt) _).mono ?_
        rintro e w1 ⟨rfl, rfl⟩
        go_wp2_with fail
        go_ret
        refine ⟨ret_i64 ?_, rfl⟩
        rw [← UInt8.toNat_inj.1 HE.out]
        exact (no_lett a q HA.out n (by rw [HNN.out]; exact hlt)).symm
      · have hd : (((lett a n).toNat : Int) == (c.toNat : Int)) = false := beq_eq_false_iff_ne.2 (by omega)
        have HE := Lib.hid he
        clear he
        go_wp2_with fail
        refine (HBits.out _).mono ?_
        rintro e w1 ⟨rfl, rfl⟩
        go_wp2_with fail
        refine (letter_any a q n HA.out (by rw [HNN.out]; exact hlt) _).mono ?_
        rintro e w1 ⟨rfl, rfl⟩
        go_wp2_with fail
        go_round
        case rel =>
          refine ⟨n + 1, by omega, by go_num, fun m hm => ?_⟩
          by_cases hmn : m = n
          · subst hmn; exact fun x => HE.out (by rw [x])
          · exact HNo.out m (by omega)
        case measure => simp [RowKit.intOf]; omega
    · obtain rfl : N = n := by omega
      go_wp2_with fail
      refine (HBits.out _).mono ?_
      rintro e w1 ⟨rfl, rfl⟩
      go_wp2_with fail
      go_ret
      refine ⟨ret_i64 ?_, rfl⟩
      obtain ⟨h0, h1, h3⟩ := no_facts a q HA.out c
      by_cases hz : 0 ≤ no a c
      · exact absurd (h3 hz) (HNo.out _ (by omega))
      · omega

theorem mask_bit (z e : Nat) (hz : z < 64) : bits .and .i64 (((z : Nat) : Int) / 2 ^ e) 1 = ((z / 2 ^ e % 2 : Nat) : Int) := by
  have hb := bits_mask .i64 63 (by decide) (fun m h0 h1 => by rw [IntKind.wrap_i64]; omega) 1 (by decide) ((z : Int) / 2 ^ e) (Int.ediv_nonneg (by omega) (by exact_mod_cast Nat.zero_le _)) (by
    have h2 : ((z / 2 ^ e : Nat) : Int) = (z : Int) / 2 ^ e := by rw [Int.natCast_ediv, Int.natCast_pow]; rfl
    have h3 : z / 2 ^ e ≤ z := Nat.div_le_self _ _
    rw [← h2]
    omega)
  refine hb.trans ?_
  rw [Int.natCast_emod, Int.natCast_ediv, Int.natCast_pow]
  rfl

/-- What the document's answer tells of letters. -/
def RefAs (a : Int) (q : Nat) (s : List UInt8) (B : Nat) (v : Value) (n1 n2 : Int) (w : World) : Prop :=
  (∃ (i : Nat) (c : UInt8), s[i]? = some c ∧ no a c < 0 ∧ Good a (s.take i) ∧ v = .slice none 0 0 ∧ n1 = 60 ∧ n2 = i) ∨
  (Good a s ∧ ¬ Fit q s.length ∧ v = .slice none 0 0 ∧ n1 = 61 ∧ n2 = s.length) ∨
  (Good a s ∧ Fit q s.length ∧ ¬ Clean a q s ∧ v = .slice none 0 0 ∧ n1 = 62 ∧ n2 = s.length - 1) ∨
  (Good a s ∧ Fit q s.length ∧ Clean a q s ∧ n1 = 0 ∧ n2 = 0 ∧ ∃ g, B ≤ g ∧ v = .slice (some ⟨g, 0, none⟩) (readOf a q s).length (readOf a q s).length ∧ w.heap[g]? = some (.cells (byteCells (readOf a q s)).toArray 5 (0, 0)))

/-- A row of bytes in a block of its own. -/
def Out (g : Nat) (L : List UInt8) (w : World) : Prop := w.heap[g]? = some (.cells (byteCells L).toArray 5 (0, 0))

theorem Out.set {g : Nat} {L : List UInt8} {w : World} (h : Out g L w) (p : Nat) (b : UInt8) : Out g (L.set p b) (w.setCell ⟨g, p, none⟩ (.int .u8 b.toNat)) := by
  unfold Out at *
  rw [row_set (i := p) h]
  congr 2
  rw [List.setIfInBounds_toArray]
  congr 1
  simp [byteCells, List.map_set]

set_option maxRecDepth 100000 in
set_option maxHeartbeats 1000000 in
theorem refRead_some (a : Int) (q : Nat) (ha : (a = 1 ∧ q = 4) ∨ (a = 2 ∧ q = 5) ∨ (a = 3 ∧ q = 6)) (s : List UInt8) (hlen : s.length ≤ 134217728) (w : World) :
    Calls Try.prog 21 #[.int .i64 a, .string ⟨s.toArray⟩] w fun e w' => ∃ v n1 n2, e = .returned (.tuple #[v, .int .i64 n1, .int .i64 n2]) ∧ RefAs a q s w.heap.size v n1 n2 w' ∧ Below w.heap.size w w' := by
  have hq0 : 4 ≤ q := by omega
  have hq1 : q ≤ 6 := by omega
  have HBits := Lib.hid (refBits_some a q ha)
  have HNum := Lib.hid (number_any a q ha)
  obtain ⟨s0, hs0⟩ : ∃ s0 : ByteArray, (⟨s.toArray⟩ : ByteArray) = s0 := ⟨_, rfl⟩
  have hsz : s0.size = s.length := by rw [← hs0]; rfl
  have HAt := Lib.hid (show ∀ k, (h : k < s0.size) → s[k]? = some s0[k] ∧ s.take (k + 1) = s.take k ++ [s0[k]] by
    subst hs0
    intro k h
    have h' : k < s.length := h
    exact ⟨List.getElem?_eq_getElem h', List.take_succ_eq_append_getElem h'⟩)
  rw [hs0]
  clear hs0
  obtain ⟨n, hsn⟩ : ∃ n, s0.size = n := ⟨_, rfl⟩
  rw [← hsz] at hlen
  rw [hsn] at hlen
  have HLn := Lib.hid (hsz.symm.trans hsn)
  have HRoom := Lib.hid (fun w => refRoom_nat a q n ha (by omega) w)
  have HQ := Lib.hid ha
  obtain ⟨i0, hi0, hz0, hz1, hz2⟩ := info_parts infoByte
  clear hsz ha
  go_enter Try.func21, Try.ntmps21
  go_wp2_with fail
  refine (HBits.out _).mono ?_
  rintro e w1 ⟨rfl, rfl⟩
  go_wp2_with fail
  obtain ⟨wo, rfl⟩ : ∃ wo : World, wo = w := ⟨_, rfl⟩
  go_loop [8] (fun i => ∃ k : Nat, k ≤ n ∧ i = .int .i64 k ∧ Good a (s.take k)) (fun i => n - (RowKit.intOf i).toNat)
  case atStart => exact ⟨0, Nat.zero_le _, rfl, fun c hc => by simp at hc⟩
  case round =>
    obtain ⟨k, hk, rfl, hgood⟩ := hrel
    have HG := Lib.hid hgood
    clear hgood
    by_cases hlt : k < n
    · have hks : k < s0.size := by omega
      have hat := HAt.out k hks
      have HN := Lib.hid (HNum.out s0[k])
      obtain ⟨z, hz⟩ : ∃ z, no a s0[k] = z := ⟨_, rfl⟩
      rw [hz] at HN
      have HZ := Lib.hid hz
      have HA := Lib.hid hat
      clear hz hat
      by_cases hneg : z < 0
      · have hd : decide (z < 0) = true := decide_eq_true hneg
        have HNeg := Lib.hid hneg
        clear hneg
        go_wp2_with fail
        refine (HN.out _).mono ?_
        rintro e w1 ⟨rfl, rfl⟩
        go_wp2_with fail
        go_returns
        exact ⟨_, _, _, rfl, .inl ⟨k, s0[k], HA.out.1, by rw [HZ.out]; exact HNeg.out, HG.out, rfl, rfl, rfl⟩, Below.refl _ _⟩
      · have hd : decide (z < 0) = false := decide_eq_false hneg
        have HNeg := Lib.hid hneg
        clear hneg
        go_wp2_with fail
        refine (HN.out _).mono ?_
        rintro e w1 ⟨rfl, rfl⟩
        go_wp2_with fail
        go_round
        case rel =>
          refine ⟨k + 1, by omega, by go_num, ?_⟩
          intro c hc
          rw [HA.out.2] at hc
          rcases List.mem_append.1 hc with hc | hc
          · exact HG.out c hc
          · rw [List.mem_singleton] at hc; rw [hc, HZ.out]; have := HNeg.out; omega
        case measure => simp [RowKit.intOf]; omega
    · obtain rfl : n = k := by omega
      have hg := HG.out
      rw [List.take_of_length_le (by rw [HLn.out]; exact Nat.le_refl _)] at hg
      have HGd := Lib.hid hg
      clear hlt hk hg HG
      obtain ⟨R, hR⟩ : ∃ R : Int, (if fitB q n = true then ((q * n / 8 : Nat) : Int) else -1) = R := ⟨_, rfl⟩
      rw [hR] at HRoom
      have HR := Lib.hid hR
      clear hR
      go_wp2_with fail
      refine (HRoom.out _).mono ?_
      rintro e w1 ⟨rfl, rfl⟩
      by_cases hf : fitB q n = true
      · have hm := HR.out
        rw [if_pos hf] at hm
        obtain ⟨m, hmm⟩ : ∃ m, q * n / 8 = m := ⟨_, rfl⟩
        rw [hmm] at hm
        subst hm
        have hq6 : q * n ≤ 6 * n := Nat.mul_le_mul_right n hq1
        have hmn : m ≤ n := by omega
        have hmk : ∀ w : World, (Instr.makeSlice 22 (.int .i64 (m : Int)) (.int .i64 (m : Int))).run Try.prog w = .ok (.slice (some ⟨w.heap.size, 0, none⟩) m m) (w.alloc (.cells (madeCells #[.int .u8 0] m) 5)) := fun w => by
          have h := run_make (P := Try.prog) w 22 5 i0 (.int .u8 0) Try.underlying22 hi0 hz0 .i64 .i64 (m : Int) (m : Int) (by omega) (by omega) (by rw [hz2]; omega) (by omega)
          rw [hz1, Nat.mul_one, Int.toNat_natCast] at h
          exact h
        have HM := Lib.hid hmm
        have HF := Lib.hid ((fitB_iff q n).1 hf)
        clear hmm hq6 hf
        go_wp2_with fail
        clear hmk
        have hV := tval_lt a q HQ.out s
        rw [HLn.out] at hV
        obtain ⟨Q, hQ⟩ : ∃ Q, q * n = Q := ⟨_, rfl⟩
        rw [hQ] at hV
        have hQm : 8 * m ≤ Q := by have := HM.out; omega
        have hdig := fun (i : Nat) (hi : i < n) => dig_at (2 ^ q) (digs a s) (digs_lt a q HQ.out s) i (by rw [digs_length, HLn.out]; exact hi)
        obtain ⟨V, hVV⟩ : ∃ V, tval a q s = V := ⟨_, rfl⟩
        have hVd : dval (2 ^ q) (digs a s) = V := hVV
        rw [hVV] at hV
        rw [hVd] at hdig
        have HV := Lib.hid hVV
        have HQQ := Lib.hid hQ
        have HDig := Lib.hid hdig
        have HQm := Lib.hid hQm
        have hst : Out wo.heap.size (List.replicate m 0) (wo.alloc (.cells (madeCells #[.int .u8 0] m) 5)) := by
          unfold Out
          rw [heap_new _ rfl]
          congr 2
          apply Array.ext'
          rw [toList_madeCells_one]
          simp [byteCells]
        have hpl := placed_start V Q m hV
        have hbw : Below wo.heap.size wo (wo.alloc (.cells (madeCells #[.int .u8 0] m) 5)) := by go_grown
        clear hVV hVd hdig hV hQ hQm
        go_loopw [11] (fun v wr => ∃ (i : Nat) (L : List UInt8), i ≤ n ∧ v = .int .i64 i ∧ Placed V Q m (i * q) L ∧ Out wo.heap.size L wr ∧ Below wo.heap.size wo wr) (fun v _ => n - (RowKit.intOf v).toNat)
        case atStart => exact ⟨0, _, Nat.zero_le _, rfl, by rw [Nat.zero_mul]; exact hpl, hst, hbw⟩
        case round =>
          clear hpl hst hbw
          obtain ⟨i, L0, hi, rfl, hP0, hO0, hB0⟩ := hrel
          by_cases hlt : i < n
          · have hks : i < s0.size := by omega
            have hat := HAt.out i hks
            have HN := Lib.hid (HNum.out s0[i])
            have hpos := HGd.out s0[i] (List.mem_of_getElem? hat.1)
            have hx : (no a s0[i]).toNat = V / 2 ^ (Q - (i + 1) * q) % 2 ^ q := by
              have h1 := HDig.out i hlt
              have h2 : (digs a s)[i]? = some (no a s0[i]).toNat := by unfold digs; rw [List.getElem?_map, hat.1]; rfl
              rw [List.getElem?_eq_getElem (by rw [digs_length, HLn.out]; exact hlt), Option.some.injEq] at h2
              rw [← h2, h1, digs_length, HLn.out, ← Nat.pow_mul]
              congr 3
              rw [← HQQ.out, show n - 1 - i = n - (i + 1) by omega, Nat.mul_sub, Nat.mul_comm q (i + 1)]
            obtain ⟨z, hz⟩ : ∃ z : Nat, no a s0[i] = z := ⟨(no a s0[i]).toNat, by omega⟩
            rw [hz] at hx HN
            rw [Int.toNat_natCast] at hx
            have hiq : (i + 1) * q ≤ Q := by rw [← HQQ.out, Nat.mul_comm q n]; exact Nat.mul_le_mul_right q hlt
            have hiq2 : i * q + q ≤ Q := by rw [Nat.add_mul, Nat.one_mul] at hiq; exact hiq
            have hz64 : z < 64 := by
              have h64 : (2 : Nat) ^ q ≤ 64 := by
                obtain rfl | rfl | rfl : q = 4 ∨ q = 5 ∨ q = 6 := by omega
                all_goals decide
              have := Nat.mod_lt (V / 2 ^ (Q - (i + 1) * q)) (Nat.two_pow_pos q)
              omega
            have HX := Lib.hid hx
            have HI := Lib.hid hiq
            have HI2 := Lib.hid hiq2
            have hQ6 : Q ≤ 805306368 := by
              rw [← HQQ.out]
              have : q * n ≤ 6 * 134217728 := Nat.mul_le_mul hq1 hlen
              omega
            clear hz hx hat hpos hiq hiq2
            go_wp2_with fail
            refine (HN.out _).mono ?_
            rintro e w1 ⟨rfl, rfl⟩
            go_wp2_with fail
            go_loopw [13] (fun v wr => ∃ (j : Nat) (L : List UInt8), j ≤ q ∧ v = .int .i64 j ∧ Placed V Q m (i * q + j) L ∧ Out wo.heap.size L wr ∧ Below wo.heap.size wo wr) (fun v _ => q - (RowKit.intOf v).toNat)
            case atStart => exact ⟨0, L0, Nat.zero_le _, rfl, hP0, hO0, hB0⟩
            case round =>
              clear hP0 hO0 hB0
              obtain ⟨j, L, hj, rfl, hP, hO, hB⟩ := hrel
              by_cases hjq : j < q
              · have hbit := bit_of V Q q i j HI.out hjq
                rw [← HX.out] at hbit
                obtain ⟨A, hA⟩ : ∃ A, i * q + j = A := ⟨_, rfl⟩
                have hAI : (i : Int) * (q : Int) + (j : Int) = (A : Int) := by rw [← hA]; push_cast; rfl
                have hAQ : A < Q := by have := HI2.out; omega
                rw [hA] at hP hbit
                have HAA := Lib.hid hA
                have hmask := mask_bit z (q - 1 - j) hz64
                rw [hbit] at hmask
                have HP := Lib.hid hP
                have HO := Lib.hid hO
                clear hP hO hbit hA
                obtain ⟨β, hβ⟩ : ∃ β, V / 2 ^ (Q - A - 1) % 2 = β := ⟨_, rfl⟩
                rw [hβ] at hmask
                have HBt := Lib.hid hβ
                have hβ2 : β = 0 ∨ β = 1 := by omega
                clear hβ
                rcases hβ2 with rfl | rfl
                · go_wp2_with fail
                  go_roundw
                  case rel => exact ⟨j + 1, L, by omega, by go_num, by rw [← Nat.add_assoc, HAA.out]; exact placed_zero HP.out hAQ HBt.out, HO.out, hB⟩
                  case measure => simp [RowKit.intOf]; omega
                · by_cases hov : m ≤ A / 8
                  · have hd : decide ((m : Int) ≤ (A : Int) / 8) = true := decide_eq_true (by omega)
                    go_wp2_with fail
                    go_returns
                    refine ⟨_, _, _, rfl, .inr (.inr (.inl ⟨HGd.out, by rw [HLn.out]; exact HF.out, ?_, rfl, rfl, by rw [HLn.out]⟩)), hB⟩
                    have hno := placed_over (V := V) (Q := Q) (n := m) hAQ (by omega) HBt.out
                    unfold Clean over
                    rw [HV.out, HLn.out, HQQ.out]
                    have h1 := HM.out
                    have h2 := HQQ.out
                    rw [show Q - 8 * m = Q % 8 by omega] at hno
                    exact hno
                  · have hd : decide ((m : Int) ≤ (A : Int) / 8) = false := decide_eq_false (by omega)
                    have hAm : A / 8 < m := by omega
                    have hp : A / 8 < L.length := by rw [HP.out.1]; exact hAm
                    have hby := placed_byte HP.out HQm.out hp
                    have hpo := fun b hb => placed_one HP.out HQm.out hp HBt.out b hb
                    obtain ⟨b, hb⟩ : ∃ b : UInt8, b.toNat = L[A / 8].toNat + 2 ^ (7 - A % 8) := ⟨UInt8.ofNat (L[A / 8].toNat + 2 ^ (7 - A % 8)), by rw [UInt8.toNat_ofNat']; exact Nat.mod_eq_of_lt hby⟩
                    have hpb := hpo b hb
                    have hcell : wr.cell? ⟨wo.heap.size, A / 8, none⟩ = some (.int .u8 L[A / 8].toNat) := by
                      have := HO.out
                      unfold Out at this
                      rw [cell_of_heap this]
                      simp [byteCells, List.getElem?_eq_getElem hp]
                    have hfz : wr.frozen? ⟨wo.heap.size, A / 8, none⟩ = false := frozen_of_heap HO.out _
                    have hout := HO.out.set (A / 8) b
                    have hbs := hB.setCell (p := ⟨wo.heap.size, A / 8, none⟩) (Nat.le_refl _) (.int .u8 b.toNat)
                    have hsum : ((L[A / 8].toNat : Int) + 2 ^ (7 - A % 8)) = (b.toNat : Int) := by rw [hb]; push_cast; rfl
                    have hblt := b.toNat_lt
                    have HPB := Lib.hid hpb
                    have HOut := Lib.hid hout
                    clear hpo hpb hout hov hb
                    generalize L[A / 8].toNat = y at *
                    go_wp2_with fail
                    go_region
                    go_wp2_with fail
                    go_roundw
                    case rel =>
                      have e256 : (b.toNat : Int) % 256 = b.toNat := by omega
                      rw [e256]
                      exact ⟨j + 1, L.set (A / 8) b, by omega, by go_num, by rw [← Nat.add_assoc, HAA.out]; exact HPB.out, HOut.out, below_drewN 1 hbs⟩
                    case measure => simp [RowKit.intOf]; omega
              · obtain rfl : q = j := by omega
                have HP := Lib.hid hP
                clear hP
                go_wp2_with fail
                go_roundw
                case rel => exact ⟨i + 1, L, by omega, by go_num, by rw [Nat.add_mul, Nat.one_mul]; exact HP.out, hO, hB⟩
                case measure => simp [RowKit.intOf]; omega
          · obtain rfl : n = i := by omega
            have hpe := hP0
            rw [Nat.mul_comm n q, HQQ.out] at hpe
            have hlm := hpe.1
            obtain ⟨hp1, hp2⟩ := placed_end hpe
            have h1 := HM.out
            have h2 := HQQ.out
            rw [show Q - 8 * m = Q % 8 by omega] at hp1 hp2
            have hcl : Clean a q s := by
              unfold Clean over
              rw [HV.out, HLn.out, h2]
              exact hp1
            have hro : readOf a q s = L0 := by
              unfold readOf over
              rw [HV.out, HLn.out, h2, hp2, ← h1, h2]
            rw [← hro] at hlm hO0
            have HCl := Lib.hid hcl
            have HLm := Lib.hid hlm
            have HO0 := Lib.hid hO0
            clear hpe hp1 hp2 h1 h2 hcl hro hlm hP0 hO0
            go_wp2_with fail
            go_returns
            exact ⟨.slice (some ⟨wo.heap.size, 0, none⟩) m m, 0, 0, rfl, .inr (.inr (.inr ⟨HGd.out, by rw [HLn.out]; exact HF.out, HCl.out, rfl, rfl, wo.heap.size, Nat.le_refl _, by rw [HLm.out], HO0.out⟩)), hB0⟩
      · have hm := HR.out
        rw [if_neg hf] at hm
        subst hm
        have HF := Lib.hid hf
        clear hf
        go_wp2_with fail
        go_returns
        exact ⟨_, _, _, rfl, .inr (.inl ⟨HGd.out, fun h => HF.out (by rw [HLn.out] at h; exact (fitB_iff q n).2 h), rfl, rfl, by rw [HLn.out]⟩), Below.refl _ _⟩
end Go.Proofs.Ytaaiikjjfleooaa
