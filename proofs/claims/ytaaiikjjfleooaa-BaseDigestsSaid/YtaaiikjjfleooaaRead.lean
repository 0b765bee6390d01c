/- The contracts of base's Room and Read. -/
import Derived.Test.YtaaiikjjfleooaaReadMath
import Derived.Test.YtaaiikjjfleooaaEnd
import Derived.Test.YtaaiikjjfleooaaOpenBytes
import Derived.Laws.MakeOwn
import Derived.Laws.OwnMore
import Derived.Deep.Onto
namespace Go.Proofs.Ytaaiikjjfleooaa
open Go.RowKit Go.Lib

theorem count_any (n k : Int) (hn : 0 ≤ n) (hn' : n ≤ 16777216) (hk : 4 ≤ k) (hk' : k ≤ 6) (w : World) :
    Calls Try.prog 42 #[.int .i64 n, .int .i64 k] w fun e w' => e = .returned (.int .i64 ((8 * n + k - 1) / k)) ∧ w' = w := by
  go_enter Try.func42, Try.ntmps42
  go_wp2
  go_ret
  exact ⟨rfl, rfl⟩

/-- What Room answers. -/
def roomOf (q n : Nat) : Nat := if (8 * (n % 8 * q / 8) + q - 1) / q = n % 8 then q * n / 8 else 0
def fitB (q n : Nat) : Bool := decide ((8 * (n % 8 * q / 8) + q - 1) / q = n % 8)
theorem fitB_iff (q n : Nat) : fitB q n = true ↔ Fit q n := by unfold fitB Fit; simp
theorem roomOf_fit (q n : Nat) (h : fitB q n = true) : roomOf q n = q * n / 8 := by unfold roomOf; rw [if_pos (of_decide_eq_true h)]

theorem prod_bd (k n : Int) (hk : 4 ≤ k) (hk' : k ≤ 6) (hn : 0 ≤ n) (hn' : n ≤ 9223372036854775807) :
    0 ≤ n % 8 * k ∧ n % 8 * k ≤ 42 ∧ 0 ≤ n / 8 * k ∧ n / 8 * k + n % 8 * k / 8 ≤ 9223372036854775807 ∧ n / 8 * k ≤ 9223372036854775807 := by
  obtain rfl | rfl | rfl : k = 4 ∨ k = 5 ∨ k = 6 := by omega
  all_goals omega

set_option maxHeartbeats 2000000 in
theorem room_int (a k n : Int) (ha : (a = 1 ∧ k = 4) ∨ (a = 2 ∧ k = 5) ∨ (a = 3 ∧ k = 6)) (hn : 0 ≤ n) (hn' : n ≤ 9223372036854775807) (w : World) :
    Calls Try.prog 27 #[.int .u8 a, .int .i64 n] w fun e w' => e = .returned (.tuple #[.int .i64 (if (8 * (n % 8 * k / 8) + k - 1) / k = n % 8 then n / 8 * k + n % 8 * k / 8 else 0), .bool (decide ((8 * (n % 8 * k / 8) + k - 1) / k = n % 8))]) ∧ Below w.heap.size w w' := by
  have hq : (a = 1 ∧ k.toNat = 4) ∨ (a = 2 ∧ k.toNat = 5) ∨ (a = 3 ∧ k.toNat = 6) := by omega
  have C := letters_is a k.toNat hq
  rw [show ((k.toNat : Nat) : Int) = k by omega] at C
  have HC := Lib.hid C
  obtain ⟨b1, b2, b3, b4, b5⟩ := prod_bd k n (by omega) (by omega) hn hn'
  have hk : 4 ≤ k := by omega
  have hk' : k ≤ 6 := by omega
  clear C ha hq
  by_cases hf : (8 * (n % 8 * k / 8) + k - 1) / k = n % 8
  · rw [if_pos hf, decide_eq_true hf]
    have e1 : ((8 * (n % 8 * k / 8) + k - 1) / k != n % 8) = false := by simpa using hf
    clear hf
    go_enter Try.func27, Try.ntmps27
    go_wp2_with fail
    refine (HC.out _).mono ?_
    rintro e w' ⟨rfl, hg⟩
    go_wp2_with fail
    refine (count_any _ _ (by omega) (by omega) (by omega) (by omega) _).mono ?_
    rintro e w' ⟨rfl, rfl⟩
    go_wp2
    go_ret2
    exact ⟨rfl, hg⟩
  · rw [if_neg hf, decide_eq_false hf]
    have e1 : ((8 * (n % 8 * k / 8) + k - 1) / k != n % 8) = true := by simpa using hf
    clear hf
    go_enter Try.func27, Try.ntmps27
    go_wp2_with fail
    refine (HC.out _).mono ?_
    rintro e w' ⟨rfl, hg⟩
    go_wp2_with fail
    refine (count_any _ _ (by omega) (by omega) (by omega) (by omega) _).mono ?_
    rintro e w' ⟨rfl, rfl⟩
    go_wp2
    go_ret2
    exact ⟨rfl, hg⟩

theorem room_nat (a : Int) (q n : Nat) (ha : (a = 1 ∧ q = 4) ∨ (a = 2 ∧ q = 5) ∨ (a = 3 ∧ q = 6)) (hn : n ≤ 140737488355328) (w : World) :
    Calls Try.prog 27 #[.int .u8 a, .int .i64 n] w fun e w' => e = .returned (.tuple #[.int .i64 (roomOf q n), .bool (fitB q n)]) ∧ Below w.heap.size w w' := by
  have h := room_int a q n (by omega) (by omega) (by omega) w
  obtain ⟨hF, _⟩ := fit_facts q n (by omega) (by omega)
  have e0 : (8 * ((n : Int) % 8 * (q : Int) / 8) + (q : Int) - 1) / (q : Int) = (((8 * (n % 8 * q / 8) + q - 1) / q : Nat) : Int) := by
    have e5 : ((n % 8 * q / 8 : Nat) : Int) = (n : Int) % 8 * (q : Int) / 8 := by push_cast; rfl
    rw [Int.natCast_ediv, ← e5]
    congr 1
    generalize n % 8 * q / 8 = z
    omega
  have e1 : ((8 * ((n : Int) % 8 * (q : Int) / 8) + (q : Int) - 1) / (q : Int) = (n : Int) % 8) ↔ ((8 * (n % 8 * q / 8) + q - 1) / q = n % 8) := by rw [e0]; omega
  have e2 : (n : Int) / 8 * (q : Int) + (n : Int) % 8 * (q : Int) / 8 = ((q * n / 8 : Nat) : Int) := by rw [← hF]; push_cast; rfl
  have e3 : (if (8 * ((n : Int) % 8 * (q : Int) / 8) + (q : Int) - 1) / (q : Int) = (n : Int) % 8 then (n : Int) / 8 * (q : Int) + (n : Int) % 8 * (q : Int) / 8 else 0) = ((roomOf q n : Nat) : Int) := by
    unfold roomOf
    by_cases hf : (8 * (n % 8 * q / 8) + q - 1) / q = n % 8
    · rw [if_pos hf, if_pos (e1.2 hf), e2]
    · rw [if_neg hf, if_neg (fun x => hf (e1.1 x))]; rfl
  have e4 : decide ((8 * ((n : Int) % 8 * (q : Int) / 8) + (q : Int) - 1) / (q : Int) = (n : Int) % 8) = fitB q n := by
    unfold fitB
    exact decide_eq_decide.2 e1
  rw [e3, e4] at h
  exact h

/-- What Read answers. -/
def ReadAs (a : Int) (q : Nat) (s : List UInt8) (B : Nat) (v e : Value) (w : World) : Prop :=
  (∃ i c, s[i]? = some c ∧ no a c < 0 ∧ Good a (s.take i) ∧ v = .slice none 0 0 ∧ e = .iface 78 (.agg #[.int .i64 60, .int .i64 i])) ∨
  (Good a s ∧ ¬ Fit q s.length ∧ v = .slice none 0 0 ∧ e = .iface 78 (.agg #[.int .i64 61, .int .i64 s.length])) ∨
  (Good a s ∧ Fit q s.length ∧ ¬ Clean a q s ∧ v = .slice none 0 0 ∧ e = .iface 78 (.agg #[.int .i64 62, .int .i64 (s.length - 1)])) ∨
  (Good a s ∧ Fit q s.length ∧ Clean a q s ∧ w.ownsRow B 5 1 v (readOf a q s).length (byteCells (readOf a q s)) ∧ e = .nilIface)

theorem or_read (q V z : Nat) (hq0 : 4 ≤ q) (hq1 : q ≤ 6) (hz : z < 2 ^ q) : bits .or .u32 (↑(V % 4294967296) * 2 ^ q % 4294967296) ↑z = ↑((V * 2 ^ q + z) % 4294967296) := by
  have h64 : (2 : Nat) ^ q ≤ 64 := by
    obtain rfl | rfl | rfl : q = 4 ∨ q = 5 ∨ q = 6 := by omega
    all_goals decide
  have e1 : ((V % 4294967296 : Nat) : Int) * 2 ^ q % 4294967296 = (((V % 4294967296) * 2 ^ q % 4294967296 : Nat) : Int) := by
    generalize V % 4294967296 = U
    rw [Int.natCast_emod, Int.natCast_mul, Int.natCast_pow]; rfl
  have e2 : V % 4294967296 * 2 ^ q % 4294967296 = 2 ^ q * (V % 2 ^ (32 - q)) := by
    have e3 : (4294967296 : Nat) = 2 ^ q * 2 ^ (32 - q) := by rw [← Nat.pow_add, show q + (32 - q) = 32 by omega]
    rw [Nat.mul_mod, Nat.mod_mod, ← Nat.mul_mod, Nat.mul_comm V]
    conv => lhs; rw [e3]
    rw [Nat.mul_mod_mul_left]
  have e4 : (V * 2 ^ q + z) % 4294967296 = 2 ^ q * (V % 2 ^ (32 - q)) + z := by
    have e3 : (4294967296 : Nat) = 2 ^ q * 2 ^ (32 - q) := by rw [← Nat.pow_add, show q + (32 - q) = 32 by omega]
    rw [e3, Nat.mod_mul, Nat.mul_comm V, Nat.mul_add_mod, Nat.mod_eq_of_lt hz, Nat.mul_add_div (Nat.two_pow_pos q), Nat.div_eq_of_lt hz, Nat.add_zero, Nat.add_comm]
  have hb : 2 ^ q * (V % 2 ^ (32 - q)) < 4294967296 := by rw [← e2]; exact Nat.mod_lt _ (by decide)
  rw [e1, u32_or_nat _ _ (Nat.mod_lt _ (by decide)) (by omega), e4, e2]
  congr 1
  rw [Nat.mul_comm (2 ^ q)]
  exact nat_join q _ _ (Nat.mul_mod_left _ _) hz

theorem byte_read (V e : Nat) (he : e ≤ 24) : ((V % 4294967296 : Nat) : Int) / 2 ^ e % 256 = ((UInt8.ofNat (V / 2 ^ e)).toNat : Int) := by
  have e1 : ((V % 4294967296 : Nat) : Int) / 2 ^ e % 256 = ((V % 4294967296 / 2 ^ e % 256 : Nat) : Int) := by
    generalize V % 4294967296 = U
    rw [Int.natCast_emod, Int.natCast_ediv, Int.natCast_pow]; rfl
  rw [e1, UInt8.toNat_ofNat']
  congr 1
  have e3 : (4294967296 : Nat) = 2 ^ e * 2 ^ (32 - e) := by rw [← Nat.pow_add, show e + (32 - e) = 32 by omega]
  rw [e3, Nat.mod_mul_right_div_self, Nat.mod_mod_of_dvd]
  exact Nat.pow_dvd_pow 2 (show 8 ≤ 32 - e by omega)

theorem mask_read (B H : Nat) (hB : B < 4294967296) (hH : H < 8) : bits .and .u32 (↑B) ((2 ^ H - 1) % 4294967296) = ↑(B % 2 ^ H) := by
  have e2 : ((2 : Int) ^ H - 1) % 4294967296 = ((2 ^ H - 1 : Nat) : Int) := by
    obtain rfl | rfl | rfl | rfl | rfl | rfl | rfl | rfl : H = 0 ∨ H = 1 ∨ H = 2 ∨ H = 3 ∨ H = 4 ∨ H = 5 ∨ H = 6 ∨ H = 7 := by omega
    all_goals decide
  have b3 : (2 : Nat) ^ H ≤ 128 := by
    obtain rfl | rfl | rfl | rfl | rfl | rfl | rfl | rfl : H = 0 ∨ H = 1 ∨ H = 2 ∨ H = 3 ∨ H = 4 ∨ H = 5 ∨ H = 6 ∨ H = 7 := by omega
    all_goals decide
  rw [e2, u32_and_nat _ _ hB (by omega), Nat.and_two_pow_sub_one_eq_mod]

/-- The box of the numbers of bytes, the first k of them. -/
def Nums (a : Int) (g k : Nat) (w : World) : Prop := ∃ cs : Array Value, w.heap[g]? = some (.cells cs 75 (0, 0)) ∧ cs.size = 256 ∧ ∀ i < k, cs[i]? = some (.int .i8 (no a (UInt8.ofNat i)))

theorem Nums.set {a : Int} {g k : Nat} {w : World} (h : Nums a g k w) (hk : k < 256) : Nums a g (k + 1) (w.setCell ⟨g, k, none⟩ (.int .i8 (no a (UInt8.ofNat k)))) := by
  obtain ⟨cs, h1, h2, h3⟩ := h
  refine ⟨_, row_set (i := k) h1 _, by simpa using h2, fun i hi => ?_⟩
  by_cases e : i = k
  · subst e; rw [Array.getElem?_setIfInBounds_self_of_lt (by omega)]
  · rw [Array.getElem?_setIfInBounds_ne (by omega)]; exact h3 i (by omega)
theorem Nums.at {a : Int} {g k : Nat} {w : World} (h : Nums a g k w) (i : Nat) (hi : i < k) : w.cell? ⟨g, i, none⟩ = some (.int .i8 (no a (UInt8.ofNat i))) := by
  obtain ⟨cs, h1, h2, h3⟩ := h
  rw [cell_of_heap h1]; exact h3 i hi
theorem Nums.free {a : Int} {g k : Nat} {w : World} (h : Nums a g k w) (i : Nat) (hi : i < 256) : (∃ v, w.cell? ⟨g, i, none⟩ = some v) ∧ w.frozen? ⟨g, i, none⟩ = false := by
  obtain ⟨cs, h1, h2, h3⟩ := h
  exact ⟨⟨cs[i]'(by omega), by rw [cell_of_heap h1]; exact Array.getElem?_eq_getElem (by omega)⟩, frozen_of_heap h1 i⟩

set_option maxRecDepth 100000 in
set_option maxHeartbeats 700000 in
theorem read_some (a : Int) (q : Nat) (ha : (a = 1 ∧ q = 4) ∨ (a = 2 ∧ q = 5) ∨ (a = 3 ∧ q = 6)) (s : List UInt8) (hlen : s.length ≤ 140737488351232) (w : World) :
    Calls Try.prog 20 #[.int .u8 a, .string ⟨s.toArray⟩] w fun e w' => ∃ v er, e = .returned (.tuple #[v, er]) ∧ ReadAs a q s w.heap.size v er w' ∧ Below w.heap.size w w' := by
  have HL := Lib.hid (letters_is a q ha)
  have hq0 : 4 ≤ q := by omega
  have hq1 : q ≤ 6 := by omega
  obtain ⟨s0, hs0⟩ : ∃ s0 : ByteArray, (⟨s.toArray⟩ : ByteArray) = s0 := ⟨_, rfl⟩
  have hsz : s0.size = s.length := by rw [← hs0]; rfl
  have HAt := Lib.hid (show ∀ k, (h : k < s0.size) → s[k]? = some s0[k] ∧ s.take (k + 1) = s.take k ++ [s0[k]] by
    subst hs0
    intro k h
    have h' : k < s.length := h
    exact ⟨List.getElem?_eq_getElem h', List.take_succ_eq_append_getElem h'⟩)
  rw [hs0]
  clear hs0
  obtain ⟨n, hsn⟩ : ∃ n, s0.size = n := ⟨_, rfl⟩
  rw [← hsz] at hlen
  rw [hsn] at hlen
  have HLn := Lib.hid (hsz.symm.trans hsn)
  obtain ⟨i0, hi, hz0, hz1, hz2⟩ := info_parts infoByte
  clear hsz
  go_enter Try.func20, Try.ntmps20
  go_wp2_with fail
  refine (HL.out _).mono ?_
  rintro e w1 ⟨rfl, hb1⟩
  have s1 := hb1.size
  go_wp2_with fail
  go_loopw [26] (fun i wr => ∃ k : Nat, k ≤ 256 ∧ i = .int .i64 k ∧ Nums a w1.heap.size k wr ∧ Below w.heap.size w wr) (fun i _ => 256 - (RowKit.intOf i).toNat)
  case atStart => exact ⟨0, Nat.zero_le _, rfl, ⟨_, heap_new _ rfl, by kernel_rfl, fun i hi => by omega⟩, hb1.alloc s1 _⟩
  case round =>
    obtain ⟨k, hk, rfl, hn, hb⟩ := hrel
    by_cases hlt : k < 256
    · obtain ⟨⟨v0, hc⟩, hf⟩ := hn.free k hlt
      have hno := no_facts a q ha (UInt8.ofNat k)
      have h64 : (2 : Int) ^ q ≤ 64 := by
        obtain rfl | rfl | rfl : q = 4 ∨ q = 5 ∨ q = 6 := by omega
        all_goals decide
      have hset := hn.set hlt
      obtain ⟨z, hz⟩ : ∃ z, no a (UInt8.ofNat k) = z := ⟨_, rfl⟩
      rw [hz] at hno hset
      have z1 : -1 ≤ z := hno.1
      have z2 : z < 64 := by omega
      have HZ := Lib.hid hz
      have HSet := Lib.hid hset
      clear hno h64 hz hset
      go_wp2_with fail
      refine (Go.Proofs.Try.strings_IndexByte (abc a) k wr).mono ?_
      rintro e w2 ⟨rfl, rfl⟩
      have hz2 : Lib.indexByte (abc a).data.toList ((k : Int).toNat.toUInt8) = z := HZ.out
      rw [hz2]
      clear hz2
      go_wp2_with fail
      go_roundw
      case rel => exact ⟨k + 1, by omega, by go_num, HSet.out, hb.setCell (p := ⟨w1.heap.size, k, none⟩) s1 _⟩
      case measure => simp [RowKit.intOf]; omega
    · obtain rfl : k = 256 := by omega
      clear hlt hk
      have sb := hb.size
      go_wp2_with fail
      go_loopw [39] (fun i wr => ∃ k : Nat, k ≤ n ∧ i = .int .i64 k ∧ Good a (s.take k) ∧ Nums a w1.heap.size 256 wr ∧ Below w.heap.size w wr) (fun i _ => n - (RowKit.intOf i).toNat)
      case atStart => exact ⟨0, Nat.zero_le _, rfl, fun c hc => by simp at hc, hn, hb⟩
      case round =>
        obtain ⟨k, hk, rfl, hgood, hN, hB⟩ := hrel
        have HG := Lib.hid hgood
        clear hgood
        by_cases hlt : k < n
        · have hks : k < s0.size := by omega
          have hat := HAt.out k hks
          have hc256 := s0[k].toNat_lt
          have hcell := hN.at s0[k].toNat hc256
          rw [UInt8.ofNat_toNat] at hcell
          obtain ⟨z, hz⟩ : ∃ z, no a s0[k] = z := ⟨_, rfl⟩
          rw [hz] at hcell
          have HZ := Lib.hid hz
          have HA := Lib.hid hat
          clear hz hat
          by_cases hneg : z < 0
          · have hd : decide (z < 0) = true := decide_eq_true hneg
            have HNeg := Lib.hid hneg
            clear hneg
            go_wp2_with fail
            go_ret2
            exact ⟨_, _, rfl, .inl ⟨k, s0[k], HA.out.1, by rw [HZ.out]; exact HNeg.out, HG.out, rfl, rfl⟩, hB⟩
          · have hd : decide (z < 0) = false := decide_eq_false hneg
            have HNeg := Lib.hid hneg
            clear hneg
            go_wp2_with fail
            go_roundw
            case rel =>
              refine ⟨k + 1, by omega, by go_num, ?_, hN, hB⟩
              intro c hc
              rw [HA.out.2] at hc
              rcases List.mem_append.1 hc with hc | hc
              · exact HG.out c hc
              · rw [List.mem_singleton] at hc; rw [hc, HZ.out]; exact Int.not_lt.1 HNeg.out
            case measure => simp [RowKit.intOf]; omega
        · obtain rfl : n = k := by omega
          have hg := HG.out
          rw [List.take_of_length_le (by rw [HLn.out]; exact Nat.le_refl _)] at hg
          have HGd := Lib.hid hg
          clear hlt hk hg HG hn hb
          have sb := hB.size
          go_wp2_with fail
          refine (room_nat a q n ha (by omega) wr).mono ?_
          rintro e w3 ⟨rfl, hb3⟩
          have hB3 := hB.trans (hb3.mono sb)
          have hN3 : Nums a w1.heap.size 256 w3 := by
            obtain ⟨cs, x1, x2, x3⟩ := hN
            have hlt1 := (Array.getElem?_eq_some_iff.1 x1).1
            exact ⟨cs, (hb3.block _ hlt1).trans x1, x2, x3⟩
          clear hN hB hb3
          have hroom := roomOf_fit q n
          obtain ⟨m, hm⟩ : ∃ m, roomOf q n = m := ⟨_, rfl⟩
          obtain ⟨f, hf⟩ : ∃ f, fitB q n = f := ⟨_, rfl⟩
          rw [hm, hf] at hroom ⊢
          have HF := Lib.hid hf
          have HR := Lib.hid hroom
          clear hm hf hroom
          cases f with
          | false =>
            go_wp2_with fail
            go_ret2
            refine ⟨.slice none 0 0, .iface 78 (.agg #[.int .i64 61, .int .i64 n]), rfl, .inr (.inl ⟨HGd.out, fun hfit => ?_, rfl, by rw [HLn.out]⟩), hB3⟩
            have := (fitB_iff q s.length).2 hfit
            rw [HLn.out, HF.out] at this
            cases this
          | true =>
            have hm : m = q * n / 8 := HR.out rfl
            have hq6 : q * n ≤ 6 * n := Nat.mul_le_mul_right n hq1
            have hmn : m ≤ n := by omega
            have hmk : ∀ w : World, (Instr.makeSlice 22 (.int .i64 0) (.int .i64 (m : Int))).run Try.prog w = .ok (.slice (some ⟨w.heap.size, 0, none⟩) 0 m) (w.alloc (.cells (madeCells #[.int .u8 0] m) 5)) := fun w => by
              have h := run_make (P := Try.prog) w 22 5 i0 (.int .u8 0) Try.underlying22 hi hz0 .i64 .i64 (0 : Int) (m : Int) (by omega) (by omega) (by rw [hz2]; omega) (by omega)
              rw [hz1, Nat.mul_one, Int.toNat_natCast] at h
              exact h
            have HM := Lib.hid hm
            clear hm hq6
            have sb3 := hB3.size
            go_wp2_with fail
            clear hmk
            have hbs : w1.heap.size + 1 ≤ w3.heap.size := by
              obtain ⟨cs, x1, x2, x3⟩ := hN3
              exact (Array.getElem?_eq_some_iff.1 x1).1
            go_loopw [13, 14, 15, 69] (fun v b h i wr => ∃ k : Nat, k ≤ n ∧ i = .int .i64 k ∧ b = .int .u32 (tval a q (s.take k) % 4294967296 : Nat) ∧ h = .int .u64 (over q (s.take k).length) ∧
                wr.ownsRow (w1.heap.size + 1) 5 1 v (readOf a q (s.take k)).length (byteCells (readOf a q (s.take k))) ∧ Nums a w1.heap.size 256 wr ∧ Below w.heap.size w wr) (fun _ _ _ i _ => n - (RowKit.intOf i).toNat)
            case atStart =>
              refine ⟨0, Nat.zero_le _, rfl, ?_, ?_, ?_, ?_, hB3.alloc sb3 _⟩
              · rw [List.take_zero]; rfl
              · rw [List.take_zero]; rfl
              · rw [List.take_zero, show readOf a q [] = [] by simp [readOf, bytesOf]]
                refine World.ownsRow_made w3 _ m hbs (by unfold maxLen; omega) ?_
                rw [← Array.length_toList, toList_madeCells_one]; simp
              · obtain ⟨cs, x1, x2, x3⟩ := hN3
                exact ⟨cs, (alloc_old _ _ _ (Array.getElem?_eq_some_iff.1 x1).1).trans x1, x2, x3⟩
            case round =>
              clear hN3 hB3 hbs
              obtain ⟨k, hk, rfl, rfl, rfl, hown, hN, hB⟩ := hrel
              have sbr := hB.size
              have hbr : w1.heap.size + 1 ≤ wr.heap.size := by
                obtain ⟨cs, x1, x2, x3⟩ := hN
                exact (Array.getElem?_eq_some_iff.1 x1).1
              by_cases hlt : k < n
              · have hks : k < s0.size := by omega
                have hat := HAt.out k hks
                have hc256 := s0[k].toNat_lt
                have hcell := hN.at s0[k].toNat hc256
                rw [UInt8.ofNat_toNat] at hcell
                have hno := no_facts a q ha s0[k]
                have hpos := HGd.out s0[k] (List.mem_of_getElem? hat.1)
                have htv := tval_snoc a q (s.take k) s0[k]
                have hrl := read_less a q ha (s.take k) s0[k]
                have hrm := read_more a q ha (s.take k) s0[k]
                rw [← hat.2] at htv hrl hrm
                have hov : over q (s.take k).length < 8 := Nat.mod_lt _ (by decide)
                have hRl : (readOf a q (s.take k)).length ≤ n := by
                  rw [readOf_length, List.length_take]
                  have : q * min k s.length ≤ 6 * k := Nat.le_trans (Nat.mul_le_mul_left q (Nat.min_le_left _ _)) (Nat.mul_le_mul_right _ hq1)
                  omega
                obtain ⟨z, hz⟩ : ∃ z : Nat, no a s0[k] = z := ⟨(no a s0[k]).toNat, by omega⟩
                rw [hz] at hcell hno htv
                have h64 : (2 : Nat) ^ q ≤ 64 := by
                  obtain rfl | rfl | rfl : q = 4 ∨ q = 5 ∨ q = 6 := by omega
                  all_goals decide
                have hzq : z < 2 ^ q := by
                  have h1 := hno.2.1
                  have h2 : ((2 ^ q : Nat) : Int) = 2 ^ q := by rw [Int.natCast_pow]; rfl
                  omega
                have hz64 : z < 64 := by omega
                rw [Int.toNat_natCast] at htv
                have hor := or_read q (tval a q (s.take k)) z hq0 hq1 hzq
                rw [← htv] at hor
                have hB1 : tval a q (s.take k) % 4294967296 < 4294967296 := Nat.mod_lt _ (by decide)
                have hB2 : tval a q (s.take (k + 1)) % 4294967296 < 4294967296 := Nat.mod_lt _ (by decide)
                obtain ⟨B, hBB⟩ : ∃ B, tval a q (s.take k) % 4294967296 = B := ⟨_, rfl⟩
                obtain ⟨B', hBB'⟩ : ∃ B', tval a q (s.take (k + 1)) % 4294967296 = B' := ⟨_, rfl⟩
                obtain ⟨H, hH⟩ : ∃ H, over q (s.take k).length = H := ⟨_, rfl⟩
                rw [hBB, hBB'] at hor
                rw [hBB] at hB1 ⊢
                rw [hBB'] at hB2
                rw [hH] at hov hrl hrm ⊢
                have HBB' := Lib.hid hBB'
                clear hno hpos hz hat h64 hzq htv hH hBB hBB'
                by_cases hge : 8 ≤ H + q
                · have hgeI : (8 : Int) ≤ (H : Int) + (q : Int) := by omega
                  obtain ⟨ho', hr'⟩ := hrm hge
                  obtain ⟨y, hy⟩ : ∃ y : UInt8, UInt8.ofNat (tval a q (s.take (k + 1)) / 2 ^ (H + q - 8)) = y := ⟨_, rfl⟩
                  have hby := byte_read (tval a q (s.take (k + 1))) (H + q - 8) (by omega)
                  rw [HBB'.out, hy] at hby
                  rw [hy] at hr'
                  have HR' := Lib.hid hr'
                  have HO' := Lib.hid ho'
                  have htn : ((H : Int) + (q : Int) - 8).toNat = H + q - 8 := by omega
                  have hmin : min ((H : Int) + (q : Int) - 8).toNat 32 = H + q - 8 := by omega
                  clear hrl hrm hr' ho' hy
                  go_wp2_with (at_builtin; refine wpList_append_own _ rfl _ _ 22 rfl (w1.heap.size + 1) 5 i0 (.int .u8 0) 1 1 Try.underlying22 hi hz0 hz1 hz2 rfl (by decide) _ _ _ rfl (hown.alloc _) ⟨wr.heap.size, 0, none⟩ 1 1 [.int .u8 y.toNat] rfl rfl ?c1 ?c2 ?c3 ?c4 ?c5 ?_)
                  case c1 =>
                    intro j u hj
                    match j, hj with
                    | 0, hj => simp at hj; subst hj; simp [Addr.add]
                  case c2 => intro u hu; simp at hu; subst hu; rfl
                  case c3 => unfold maxLen; omega
                  case c4 => omega
                  case c5 => simp; omega
                  intro v' w2 hown' hgrow _
                  have hb2 := ((hB.alloc (by omega) _).grown hgrow (by simp; omega) (fun k hk => by have := (hown.lt k hk).1; omega))
                  have hn2 : Nums a w1.heap.size 256 w2 := by
                    obtain ⟨cs, x1, x2, x3⟩ := hN
                    refine ⟨cs, (hgrow.block _ (by simp; omega) (fun e => ?_)).trans ((alloc_old _ _ _ (by omega)).trans x1), x2, x3⟩
                    have := (hown.lt _ e.symm).1
                    omega
                  clear hgrow hown hN
                  go_wp2_with fail
                  go_roundw
                  case rel => exact ⟨k + 1, by omega, by go_num, by rw [HBB'.out], by rw [HO'.out]; go_num, by rw [HR'.out, List.length_append, byteCells_append]; exact hown', hn2, hb2⟩
                  case measure => simp [RowKit.intOf]; omega
                · have hltI : ((H : Int) + (q : Int)) < 8 := by omega
                  obtain ⟨ho', hr'⟩ := hrl (by omega)
                  have HR' := Lib.hid hr'
                  have HO' := Lib.hid ho'
                  clear hrl hrm hr' ho'
                  go_wp2_with fail
                  go_roundw
                  case rel => exact ⟨k + 1, by omega, by go_num, by rw [HBB'.out], by rw [HO'.out]; go_num, by rw [HR'.out]; exact hown, hN, hB⟩
                  case measure => simp [RowKit.intOf]; omega
              · obtain rfl : n = k := by omega
                have hT : s.take n = s := List.take_of_length_le (by rw [HLn.out]; exact Nat.le_refl _)
                rw [hT] at hown ⊢
                have hov : over q s.length < 8 := Nat.mod_lt _ (by decide)
                have hB1 : tval a q s % 4294967296 < 4294967296 := Nat.mod_lt _ (by decide)
                have hcl : tval a q s % 4294967296 % 2 ^ over q s.length = tval a q s % 2 ^ over q s.length := Nat.mod_mod_of_dvd _ (by
                  rw [show (4294967296 : Nat) = 2 ^ 32 from rfl]
                  exact Nat.pow_dvd_pow 2 (by omega))
                obtain ⟨B, hBB⟩ : ∃ B, tval a q s % 4294967296 = B := ⟨_, rfl⟩
                obtain ⟨H, hH⟩ : ∃ H, over q s.length = H := ⟨_, rfl⟩
                have hcl2 : Clean a q s ↔ B % 2 ^ H = 0 := by
                  unfold Clean
                  rw [hH] at hcl ⊢
                  rw [← hcl, hBB]
                rw [hBB] at hB1 ⊢
                rw [hH] at hov ⊢
                have HCl := Lib.hid hcl2
                have hfit : Fit q s.length := by rw [HLn.out]; exact (fitB_iff q n).1 HF.out
                have HFit := Lib.hid hfit
                clear hT hcl hBB hH hcl2 hfit hN hlt hk
                have hmask := mask_read B H hB1 hov
                obtain ⟨r, hr⟩ : ∃ r, B % 2 ^ H = r := ⟨_, rfl⟩
                rw [hr] at hmask
                have HR2 := Lib.hid hr
                clear hr
                by_cases h0 : r = 0
                · have hd : (((r : Nat) : Int) != 0) = false := by rw [bne_eq_false_iff_eq]; omega
                  have H0 := Lib.hid h0
                  clear h0
                  go_wp2_with fail
                  go_ret2
                  exact ⟨_, _, rfl, .inr (.inr (.inr ⟨HGd.out, HFit.out, HCl.out.2 (HR2.out.trans H0.out), hown.mono (by omega), rfl⟩)), hB⟩
                · have hd : (((r : Nat) : Int) != 0) = true := by rw [bne_iff_ne]; omega
                  have H0 := Lib.hid h0
                  clear h0
                  go_wp2_with fail
                  go_ret2
                  exact ⟨.slice none 0 0, .iface 78 (.agg #[.int .i64 62, .int .i64 (n - 1)]), rfl, .inr (.inr (.inl ⟨HGd.out, HFit.out, fun h => H0.out (HR2.out.symm.trans (HCl.out.1 h)), rfl, by rw [HLn.out]⟩)), hB⟩
end Go.Proofs.Ytaaiikjjfleooaa
