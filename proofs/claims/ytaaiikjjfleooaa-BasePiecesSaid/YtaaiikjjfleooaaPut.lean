/- The contracts of base's letters: lettersOf, put. -/
import Derived.Test.YtaaiikjjfleooaaBld
import Derived.Test.YtaaiikjjfleooaaLett
import Derived.Handy
import Derived.Deep.QuietTactic
import Derived.BigQuiet
import Derived.Lib.Hide
import Derived.LoopTactic
import Derived.RegionTactic
import Derived.StillTailTactics
import Derived.Laws.BitsAllLaws
namespace Go.Proofs.Ytaaiikjjfleooaa
open Go.RowKit Go.Lib

/-- The letters of an alphabet. -/
def abc (a : Int) : ByteArray :=
  if a = 1 then ⟨#[48, 49, 50, 51, 52, 53, 54, 55, 56, 57, 97, 98, 99, 100, 101, 102]⟩
  else if a = 2 then ⟨#[48, 49, 50, 51, 52, 53, 54, 55, 56, 57, 97, 98, 99, 100, 101, 102, 103, 104, 105, 106, 107, 108, 109, 110, 111, 112, 113, 114, 115, 116, 117, 118]⟩
  else ⟨#[65, 66, 67, 68, 69, 70, 71, 72, 73, 74, 75, 76, 77, 78, 79, 80, 81, 82, 83, 84, 85, 86, 87, 88, 89, 90, 97, 98, 99, 100, 101, 102, 103, 104, 105, 106, 107, 108, 109, 110, 111, 112, 113, 114, 115, 116, 117, 118, 119, 120, 121, 122, 48, 49, 50, 51, 52, 53, 54, 55, 56, 57, 45, 95]⟩

theorem below_drewN {B : Nat} {a b : World} (n : Nat) (h : Below B a b) : Below B a (b.drewN n) := ⟨h.os, h.tape, h.output, h.size, h.block⟩

set_option maxRecDepth 100000 in
set_option maxHeartbeats 1000000 in
theorem letters_is (a : Int) (q : Nat) (h : (a = 1 ∧ q = 4) ∨ (a = 2 ∧ q = 5) ∨ (a = 3 ∧ q = 6)) (w : World) :
    Calls Try.prog 35 #[.int .u8 a] w fun e w' => e = .returned (.tuple #[.string (abc a), .int .u64 q, .bool true]) ∧ Below w.heap.size w w' := by
  rcases h with ⟨rfl, rfl⟩ | ⟨rfl, rfl⟩ | ⟨rfl, rfl⟩
  all_goals
    go_enter Try.func35, Try.ntmps35
    go_wp2
    go_quiet (fail)
    go_wp2
    go_returns
    exact ⟨rfl, below_drewN _ ((Below.refl _ w).alloc (Nat.le_refl _) _)⟩

set_option maxRecDepth 100000 in
set_option maxHeartbeats 1000000 in
theorem letters_none (a : Int) (h0 : 0 ≤ a) (h1 : a ≤ 255) (h : a = 0 ∨ 4 ≤ a) (w : World) :
    Calls Try.prog 35 #[.int .u8 a] w fun e w' => e = .returned (.tuple #[.string ⟨#[]⟩, .int .u64 0, .bool false]) ∧ Below w.heap.size w w' := by
  rcases h with rfl | h
  · go_enter Try.func35, Try.ntmps35
    go_wp2
    go_returns
    exact ⟨rfl, by go_grown⟩
  · go_enter Try.func35, Try.ntmps35
    go_wp2
    go_returns
    exact ⟨rfl, by go_grown⟩

/-- The number that a writer's bits hold, and how many of them are left over. -/
def wbits (l : List UInt8) : Nat := val l % 4294967296
def left8 (k : Nat) (l : List UInt8) : Nat := 8 * l.length % k
/-- A letter. -/
def lett (a : Int) (n : Nat) : UInt8 := (abc a).data.toList.getD n 0

/-- A writer's block. -/
def Wr (a : Int) (bits held : Nat) (K : Nat) (w : World) : Prop := w.heap[K]? = some (.cells #[.int .u8 a, .int .u32 bits, .int .u64 held] 84 (0, 0))

/-- A slice that reads as a row of bytes, not in block K, below block b. -/
def Bytes (b K : Nat) (p : Option Addr) (l : List UInt8) (w : World) : Prop :=
  l ≠ [] → ∃ pb off, p = some ⟨pb, off, none⟩ ∧ pb < b ∧ pb ≠ K ∧ ∀ j, (h : j < l.length) → w.cell? ⟨pb, off + j, none⟩ = some (.int .u8 l[j].toNat)

theorem or_step (L : List UInt8) (x : UInt8) : bits .or .u32 (↑(wbits L) * 256 % 4294967296) (↑x.toNat % 4294967296) = ↑(wbits (L ++ [x])) := by
  have hx := x.toNat_lt
  have e1 : ((wbits L : Nat) : Int) * 256 % 4294967296 = ((wbits L * 256 % 4294967296 : Nat) : Int) := by omega
  have e2 : ((x.toNat : Nat) : Int) % 4294967296 = ((x.toNat : Nat) : Int) := by omega
  rw [e1, e2, u32_or_nat _ _ (by omega) (by omega), nat_join 8 _ _ (by omega) (by omega)]
  unfold wbits
  rw [val_snoc]
  omega

theorem and_step (L : List UInt8) (q m h : Nat) (hq0 : 4 ≤ q) (hq1 : q ≤ 6) (h13 : h ≤ 13) (hge : q ≤ h) (hm : h + q * m = 8 * L.length) :
    bits .and .u32 (↑(wbits L) / 2 ^ (h - q)) (IntKind.u32.wrap (IntKind.u32.wrap (2 ^ q) - 1)) = ↑(num q L m) := by
  have e0 : 8 * L.length - q * (m + 1) = h - q := by rw [Nat.mul_add, Nat.mul_one]; omega
  have e1 : ((wbits L : Nat) : Int) / 2 ^ (h - q) = ((wbits L / 2 ^ (h - q) : Nat) : Int) := by
    rw [Int.natCast_ediv, Int.natCast_pow]; rfl
  have e2 : IntKind.u32.wrap (IntKind.u32.wrap (2 ^ q) - 1) = ((2 ^ q - 1 : Nat) : Int) := by
    obtain rfl | rfl | rfl : q = 4 ∨ q = 5 ∨ q = 6 := by omega
    all_goals decide
  have b1 : wbits L < 4294967296 := Nat.mod_lt _ (by decide)
  have b2 : wbits L / 2 ^ (h - q) ≤ wbits L := Nat.div_le_self _ _
  have b3 : (2 : Nat) ^ q ≤ 64 := by
    obtain rfl | rfl | rfl : q = 4 ∨ q = 5 ∨ q = 6 := by omega
    all_goals decide
  rw [e1, e2, u32_and_nat _ _ (by omega) (by omega), Nat.and_two_pow_sub_one_eq_mod]
  unfold num wbits
  rw [e0]
  congr 1
  have e3 : (4294967296 : Nat) = 2 ^ (h - q) * 2 ^ (32 - (h - q)) := by
    rw [← Nat.pow_add, show h - q + (32 - (h - q)) = 32 from by omega]
  rw [e3, Nat.mod_mul_right_div_self, Nat.mod_mod_of_dvd]
  exact Nat.pow_dvd_pow 2 (by omega)

theorem abc_size (a : Int) (q : Nat) (ha : (a = 1 ∧ q = 4) ∨ (a = 2 ∧ q = 5) ∨ (a = 3 ∧ q = 6)) : (abc a).size = 2 ^ q := by
  rcases ha with ⟨rfl, rfl⟩ | ⟨rfl, rfl⟩ | ⟨rfl, rfl⟩ <;> rfl
theorem lett_at (a : Int) (j : Nat) (h : j < (abc a).size) : lett a j = (abc a)[j] := by
  have h' : j < (abc a).data.toList.length := by rw [Array.length_toList]; exact h
  unfold lett
  rw [List.getD_eq_getElem?_getD, List.getElem?_eq_getElem h', Option.getD_some]
  rfl

set_option maxRecDepth 100000 in
set_option maxHeartbeats 4000000 in
theorem put_some (a : Int) (q : Nat) (ha : (a = 1 ∧ q = 4) ∨ (a = 2 ∧ q = 5) ∨ (a = 3 ∧ q = 6)) (K b : Nat) (p : Option Addr) (cap : Nat) (l0 l1 acc : List UInt8) (w : World)
    (hW : Wr a (wbits l0) (left8 q l0) K w) (hI : IsBuilderF 87 5 b b (byteCells acc) w) (hKb : K < b) (hB : Bytes b K p l1 w) (hlen : acc.length + 2 * l1.length ≤ 140737488355328) :
    Calls Try.prog 43 #[.pointer (some ⟨K, 0, none⟩), .pointer (some ⟨b, 0, none⟩), .slice p l1.length cap] w fun e w' => e = .returned (.tuple #[]) ∧
      Wr a (wbits (l0 ++ l1)) (left8 q (l0 ++ l1)) K w' ∧ But b K w w' ∧
      IsBuilderF 87 5 b b (byteCells (acc ++ ((nums q (l0 ++ l1) (8 * (l0 ++ l1).length / q)).drop (8 * l0.length / q)).map (lett a))) w' := by
  have c0 : w.cell? ⟨K, 0, none⟩ = some (.int .u8 a) := by rw [cell_of_heap hW]; rfl
  obtain ⟨n1, hn1⟩ : ∃ n, l1.length = n := ⟨_, rfl⟩
  have HN := Lib.hid hn1
  rw [hn1] at hlen ⊢
  clear hn1
  have HL := Lib.hid (letters_is a q ha)
  have hq0 : 4 ≤ q := by omega
  have hq1 : q ≤ 6 := by omega
  go_enter Try.func43, Try.ntmps43
  go_wp2_with fail
  refine (HL.out _).mono ?_
  rintro e w1 ⟨rfl, hb1⟩
  go_wp2_with fail
  clear c0
  have hW1 : Wr a (wbits (l0 ++ l1.take 0)) (left8 q (l0 ++ l1.take 0)) K w1 := by
    rw [List.take_zero, List.append_nil]
    exact (hb1.block K (Array.getElem?_eq_some_iff.1 hW).1).trans hW
  have hI1 : IsBuilderF 87 5 b b (byteCells (acc ++ ((nums q (l0 ++ l1.take 0) (8 * (l0 ++ l1.take 0).length / q)).drop (8 * l0.length / q)).map (lett a))) w1 := by
    rw [List.take_zero, List.append_nil, List.drop_of_length_le (by rw [nums_length]; exact Nat.le_refl _), List.map_nil, List.append_nil]
    exact builder_keeps hI fun i _ hi => hb1.block i hi
  have hb : b < w.heap.size := by
    rcases hI with h | h <;> exact h.lt
  have hw1 : But b K w w1 := But.of (hb1.mono (by omega))
  go_loopw [23] (fun i wr => ∃ k : Nat, k ≤ n1 ∧ i = .int .i64 k ∧ Wr a (wbits (l0 ++ l1.take k)) (left8 q (l0 ++ l1.take k)) K wr ∧ But b K w wr ∧
      IsBuilderF 87 5 b b (byteCells (acc ++ ((nums q (l0 ++ l1.take k) (8 * (l0 ++ l1.take k).length / q)).drop (8 * l0.length / q)).map (lett a))) wr)
    (fun i _ => n1 - (intOf i).toNat)
  case atStart => exact ⟨0, Nat.zero_le _, rfl, hW1, hw1, hI1⟩
  case round =>
    obtain ⟨k, hk, rfl, hWr, hBr, hIr⟩ := hrel
    by_cases hlt : k < n1
    · have hne : l1 ≠ [] := by intro e; have := HN.out; rw [e] at this; simp at this; omega
      obtain ⟨pb, off, rfl, hpb, hpK, hcell⟩ := hB hne
      have hc := (hBr.cell (p := ⟨pb, off + k, none⟩) hpb hpK).trans (hcell k (by have := HN.out; omega))
      have c1 : wr.cell? ⟨K, 1, none⟩ = some (.int .u32 (wbits (l0 ++ l1.take k))) := by rw [cell_of_heap hWr]; rfl
      have c2 : wr.cell? ⟨K, 2, none⟩ = some (.int .u64 (left8 q (l0 ++ l1.take k))) := by rw [cell_of_heap hWr]; rfl
      have f1 : wr.frozen? ⟨K, 1, none⟩ = false := frozen_of_heap hWr 1
      have f2 : wr.frozen? ⟨K, 2, none⟩ = false := frozen_of_heap hWr 2
      have b1 : wbits (l0 ++ l1.take k) < 4294967296 := Nat.mod_lt _ (by decide)
      have b2 : left8 q (l0 ++ l1.take k) < 6 := by
        have : left8 q (l0 ++ l1.take k) < q := Nat.mod_lt _ (by omega)
        omega
      have hor := or_step (l0 ++ l1.take k) (l1[k]'(by have := HN.out; omega))
      have hT : l0 ++ l1.take (k + 1) = l0 ++ l1.take k ++ [l1[k]'(by have := HN.out; omega)] := by rw [List.append_assoc, ← List.take_succ_eq_append_getElem]
      rw [← hT] at hor
      have HT := Lib.hid hT
      clear hT
      go_wp2_with fail
      go_region
      go_wp2_with fail
      clear hc hcell hB c1 c2 f1 f2
      have hlen' : (l0 ++ l1.take (k + 1)).length = (l0 ++ l1.take k).length + 1 := by rw [HT.out, List.length_append, List.length_singleton]
      have hll : l0.length ≤ (l0 ++ l1.take k).length := by simp
      have hlL : (l0 ++ l1.take (k + 1)).length = l0.length + (k + 1) := by rw [List.length_append, List.length_take, HN.out]; omega
      have hor' := HT.out
      have hor2 : ∀ m, q * m ≤ 8 * (l0 ++ l1.take k).length → nums q (l0 ++ l1.take (k + 1)) m = nums q (l0 ++ l1.take k) m := fun m hm => by rw [hor']; exact nums_snoc q _ _ m hm
      clear hor' hor
      generalize l0 ++ l1.take k = L at *
      generalize hL' : l0 ++ l1.take (k + 1) = L' at *
      clear HT
      have HL' := Lib.hid hL'
      clear hL'
      have hd := Nat.div_add_mod (8 * L.length) q
      have hr := Nat.mod_lt (8 * L.length) (show 0 < q by omega)
      go_loopw [] (fun wr => ∃ m : Nat, q * m ≤ 8 * L'.length ∧ 8 * L'.length - q * m ≤ 13 ∧ 8 * l0.length / q ≤ m ∧ Wr a (wbits L') (8 * L'.length - q * m) K wr ∧ But b K w wr ∧
          IsBuilderF 87 5 b b (byteCells (acc ++ ((nums q L' m).drop (8 * l0.length / q)).map (lett a))) wr)
        (fun wr => (intOf ((wr.cell? ⟨K, 2, none⟩).getD (.int .u64 0))).toNat)
      case atStart =>
        refine ⟨8 * L.length / q, by rw [hlen']; omega, by rw [hlen']; omega, ?_, ?_, ?_, ?_⟩
        · exact Nat.div_le_div_right (by omega)
        · have h1 := row_set (i := 2) (row_set (i := 1) (row_set (i := 1) hWr (.int .u32 (↑(wbits L) * 256 % 4294967296))) (.int .u32 ↑(wbits L'))) (.int .u64 (↑(left8 q L) + 8))
          have e : (8 * L'.length - q * (8 * L.length / q) : Nat) = left8 q L + 8 := by unfold left8; rw [hlen']; omega
          unfold Wr
          rw [e]
          exact h1
        · exact (((hBr.set (.inl rfl) _).set (.inl rfl) _).set (.inl rfl) _).drew
        · rw [hor2 _ (Nat.mul_div_le _ _)]
          exact builder_set (builder_set (builder_set hIr (by exact hKb) _) (by exact hKb) _) (by exact hKb) _
      case round =>
        obtain ⟨m, hm1, hm2, hm3, hWi, hBi, hIi⟩ := hrel
        have d1 : wr.cell? ⟨K, 1, none⟩ = some (.int .u32 (wbits L')) := by rw [cell_of_heap hWi]; rfl
        have d2 : wr.cell? ⟨K, 2, none⟩ = some (.int .u64 ((8 * L'.length - q * m : Nat) : Int)) := by rw [cell_of_heap hWi]; rfl
        have g1 : wr.frozen? ⟨K, 1, none⟩ = false := frozen_of_heap hWi 1
        have g2 : wr.frozen? ⟨K, 2, none⟩ = false := frozen_of_heap hWi 2
        obtain ⟨h, hh⟩ : ∃ h, 8 * L'.length - q * m = h := ⟨_, rfl⟩
        rw [hh] at hm2 hWi d2
        have HHQ := Lib.hid (show h + q * m = 8 * L'.length by omega)
        clear hh
        by_cases hge : (q : Int) ≤ (h : Int)
        · go_wp2_with fail
          have hgn : q ≤ h := by omega
          have hidx := and_step L' q m h hq0 hq1 hm2 hgn HHQ.out
          obtain ⟨j, hj⟩ : ∃ j, num q L' m = j := ⟨_, rfl⟩
          have hjl : j < (abc a).size := by rw [abc_size a q ha, ← hj]; exact num_lt q L' m
          have hlj := lett_at a j hjl
          have HJ := Lib.hid hj
          have HLJ := Lib.hid hlj
          rw [hj] at hidx
          clear hj hlj
          obtain ⟨v, hv⟩ : ∃ v : World, v = (wr.setCell ⟨K, 2, none⟩ (.int .u64 (↑h - ↑q))).drew := ⟨_, rfl⟩
          have hWv : v.heap[K]? = some (.cells #[.int .u8 a, .int .u32 (wbits L'), .int .u64 (↑h - ↑q)] 84 (0, 0)) := by
            rw [hv]; exact row_set (i := 2) hWi _
          have e1 : v.cell? ⟨K, 1, none⟩ = some (.int .u32 (wbits L')) := by rw [cell_of_heap hWv]; rfl
          have e2 : v.cell? ⟨K, 2, none⟩ = some (.int .u64 (↑h - ↑q)) := by rw [cell_of_heap hWv]; rfl
          have hIv := builder_set hIi (p := ⟨K, 2, none⟩) hKb (.int .u64 (↑h - ↑q))
          have hBv := (hBi.set (p := ⟨K, 2, none⟩) (.inl rfl) (.int .u64 (↑h - ↑q))).drew
          refine wp_region_still_tail 16 (by kernel_rfl) (by kernel_rfl) ?_
          change wpStill _ _ (wr.setCell ⟨K, 2, none⟩ (.int .u64 (↑h - ↑q))).drew (fun a' => wpList _ _ _ _ a' (wr.setCell ⟨K, 2, none⟩ (.int .u64 (↑h - ↑q))).drew) _ _
          rw [← hv] at hBv ⊢
          replace hIv : IsBuilderF 87 5 b b (byteCells (acc ++ ((nums q L' m).drop (8 * l0.length / q)).map (lett a))) v := by rw [hv]; exact hIv
          clear hv d1 d2 g1 g2
          simp only [List.take_succ_cons, List.take_zero, List.drop_succ_cons, List.drop_zero]
          repeat still_step
          refine wpStill_nil ?_
          have hbv : b ≤ v.heap.size := by have := hBv.size; omega
          clear hidx e1 e2
          go_wp2_with (go_at_call 50; refine (writeByte_any b b _ _ _ hIv ?hl hbv).mono ?_)
          case hl =>
            rw [byteCells_length, List.length_append, List.length_map, List.length_drop, nums_length]
            have h1 := HHQ.out
            obtain rfl | rfl | rfl : q = 4 ∨ q = 5 ∨ q = 6 := by omega
            all_goals omega
          rintro e W1 ⟨rfl, h1, hb1', k1⟩
          go_wp2
          go_roundw
          case rel =>
            have hq' := HHQ.out
            have e5 : 8 * L'.length - q * (m + 1) = h - q := by rw [Nat.mul_add, Nat.mul_one]; omega
            refine ⟨m + 1, by rw [Nat.mul_add, Nat.mul_one]; omega, by rw [e5]; omega, by omega, ?_, hBv.trans (But.of hb1'), ?_⟩
            · unfold Wr
              rw [hb1'.block K hKb, hWv, e5, show ((h - q : Nat) : Int) = ↑h - ↑q by omega]
            · have e6 : byteCells (acc ++ ((nums q L' (m + 1)).drop (8 * l0.length / q)).map (lett a)) = byteCells (acc ++ ((nums q L' m).drop (8 * l0.length / q)).map (lett a)) ++ [.int .u8 ↑(abc a)[j].toNat] := by
                rw [nums_succ, List.drop_append_of_le_length (by rw [nums_length]; exact hm3), List.map_append, ← List.append_assoc, byteCells_append, HJ.out, List.map_singleton, HLJ.out]
                rfl
              rw [e6]
              exact h1
          case measure =>
            have e7 : W1.cell? ⟨K, 2, none⟩ = some (.int .u64 (↑h - ↑q)) := by rw [cell_of_heap ((hb1'.block K hKb).trans hWv)]; rfl
            rw [e7, cell_of_heap hWi]
            simp [intOf]
            omega
        · have hq' := HHQ.out
          have em : m = 8 * L'.length / q := by
            refine (Nat.div_eq_of_lt_le ?_ ?_).symm
            · rw [Nat.mul_comm]; omega
            · rw [show (m + 1) * q = q * m + q by rw [Nat.add_mul, Nat.one_mul, Nat.mul_comm m q]]; omega
          have eh : h = left8 q L' := by
            have := Nat.div_add_mod (8 * L'.length) q
            rw [← em] at this
            unfold left8
            omega
          have HE := Lib.hid em
          have HH := Lib.hid eh
          clear em eh d1 g1 g2
          go_wp2_with fail
          go_roundw
          case rel =>
            refine ⟨k + 1, by omega, by go_num, ?_, hBi, ?_⟩
            · rw [HL'.out, ← HH.out]; exact hWi
            · rw [HL'.out, ← HE.out]; exact hIi
          case measure => simp [intOf]; omega
    · obtain rfl : k = n1 := by omega
      have ht : l1.take k = l1 := List.take_of_length_le (by rw [HN.out]; exact Nat.le_refl _)
      have HT := Lib.hid ht
      clear ht
      go_wp2_with fail
      go_returns
      rw [HT.out] at hWr hIr
      exact ⟨rfl, hWr, hBr, hIr⟩
end Go.Proofs.Ytaaiikjjfleooaa
