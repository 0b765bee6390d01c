/- Rows of units side by side; Units of a wrong text. -/
import Derived.Test.YtjbhehkkigopmaaUtfFromC
import Derived.Test.YtjbhehkkigopmaaUtfUnitsC
import Derived.BigQuiet
namespace Go.Proofs.Ytjbhehkkigopmaa
open Go.RowKit Go.Joins Go.Lib

theorem own_unitRow {w : World} {B : Nat} {v : Value} {U : List Nat} (h : w.ownsRow B 58 1 v U.length (unitCells U)) :
    ∃ q cap, v = .slice q U.length cap ∧ U.length ≤ cap ∧ cap ≤ maxLen ∧ UnitRow w.heap.size q U w ∧
      (q = none ∧ cap = 0 ∨ ∃ g cur, q = some ⟨g, 0, none⟩ ∧ B ≤ g ∧ g < w.heap.size ∧ w.heap[g]? = some (.cells cur 58 (0, 0)) ∧ cur.size = cap ∧ cur.toList.take U.length = unitCells U) := by
  rcases h.2 with ⟨rfl, h0⟩ | ⟨g, cap, cur, rfl, hB, hg, hn, hm, hs, ht⟩
  · refine ⟨none, 0, by rw [h0], by omega, by decide, fun hne => absurd (List.length_eq_zero_iff.1 h0) hne, .inl ⟨rfl, rfl⟩⟩
  · rw [Nat.mul_one] at ht hs
    have hlt : g < w.heap.size := (Array.getElem?_eq_some_iff.1 hg).1
    refine ⟨some ⟨g, 0, none⟩, cap, rfl, hn, hm, fun _ => ⟨g, 0, rfl, hlt, fun j hj => ?_⟩, .inr ⟨g, cur, rfl, hB, hlt, hg, hs, ht⟩⟩
    have e : (unitCells U)[j]? = some (.int .u16 (U[j] : Int)) := by
      unfold unitCells
      rw [List.getElem?_map, List.getElem?_eq_getElem hj]
      rfl
    rw [← ht, List.getElem?_take_of_lt hj, Array.getElem?_toList] at e
    rw [cell_of_heap hg, Nat.zero_add, e]

set_option maxRecDepth 100000 in
set_option maxHeartbeats 2000000 in
theorem sameUnits_yes (q1 q2 : Option Addr) (c1 c2 b : Nat) (U : List Nat) (w : World) (h1 : UnitRow b q1 U w) (h2 : UnitRow b q2 U w) (hb : b ≤ w.heap.size) (hlen : U.length ≤ 17179869184) :
    Calls Try.prog 32 #[.slice q1 U.length c1, .slice q2 U.length c2] w fun e w' => e = .returned (.bool true) ∧ Below w.heap.size w w' := by
  have H1 := Lib.hid h1
  have H2 := Lib.hid h2
  obtain ⟨n, hn⟩ : ∃ n, U.length = n := ⟨_, rfl⟩
  have HN := Lib.hid hn
  rw [hn] at hlen ⊢
  clear h1 h2 hn
  go_enter Try.func32, Try.ntmps32
  go_wp2_with fail
  go_loopw [5] (fun v wr => ∃ i : Nat, v = .int .i64 i ∧ i ≤ n ∧ Hid (Below w.heap.size w wr)) (fun v _ => n - (RowKit.intOf v).toNat)
  case atStart => exact ⟨0, rfl, Nat.zero_le _, Lib.hid (Below.refl _ _)⟩
  case round =>
    obtain ⟨i, rfl, hi, hbw⟩ := hrel
    by_cases hlt : i < n
    · have hiU : i < U.length := by rw [HN.out]; exact hlt
      have hbb := hbw.out.mono hb
      obtain ⟨p1, o1, rfl, hp1, hc1⟩ := (H1.out.keep hbb) (fun e => by rw [e] at hiU; simp at hiU)
      obtain ⟨p2, o2, rfl, hp2, hc2⟩ := (H2.out.keep hbb) (fun e => by rw [e] at hiU; simp at hiU)
      have d1 := hc1 i hiU
      have d2 := hc2 i hiU
      obtain ⟨x, hx⟩ : ∃ x : Int, ((U[i] : Nat) : Int) = x := ⟨_, rfl⟩
      rw [hx] at d1 d2
      clear hc1 hc2 hx hbb
      go_wp2_with fail
      go_quiet (fail)
      go_wp2_with fail
      go_roundw
      case rel => exact ⟨i + 1, by go_num, hlt, Lib.hid (below_drewN _ hbw.out)⟩
      case measure => simp [RowKit.intOf]; omega
    · obtain rfl : i = n := by omega
      go_wp2_with fail
      go_ret
      exact ⟨rfl, hbw.out⟩

set_option maxRecDepth 100000 in
set_option maxHeartbeats 2000000 in
theorem units_wrong (s : ByteArray) (hs : s.size ≤ 4294967296) (hr : rt s.data.toList = false) (w : World) :
    Calls Try.prog 31 #[.string s] w fun e w' => e = .returned (.tuple #[.slice none 0 0, .iface 81 (.agg #[.int .i64 (wrongS s.data.toList).1, .int .i64 (wrongS s.data.toList).2])]) ∧ Below w.heap.size w w' := by
  have HC := Lib.hid (count_wrong s hs hr)
  generalize (wrongS s.data.toList).1 = no at *
  generalize (wrongS s.data.toList).2 = pl at *
  clear hr
  go_enter Try.func31, Try.ntmps31
  go_wp2_with fail
  refine (HC.out _).mono ?_
  rintro e w1 ⟨rfl, hb⟩
  go_wp2_with fail
  go_ret2
  exact ⟨rfl, hb⟩
end Go.Proofs.Ytjbhehkkigopmaa
