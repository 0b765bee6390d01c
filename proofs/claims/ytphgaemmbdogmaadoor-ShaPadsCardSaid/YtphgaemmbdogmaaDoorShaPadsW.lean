/- ShaPads, walked. -/
import Derived.Test.YtphgaemmbdogmaaDoorShaTab
namespace Go.Proofs.YtphgaemmbdogmaaDoor
open Go.ChangeShapes Go.WideShapes Go.ChangeAt Go.RowKit Go.Lib

set_option maxRecDepth 100000 in
set_option maxHeartbeats 8000000 in
theorem pads_walk (n : Nat) (hn : n < 18446744073709551616) (W : World) (hT : Tab W) :
    Calls Tryd.prog 9 #[.int .u64 (n : Int)] W fun e w' => e = .returned (.bool true) ∧ Below W.heap.size W w' := by
  have HT := Lib.hid hT
  have HW := Lib.hid (fun w (h : Tab w) => works_any w h)
  clear hT
  by_cases hl : 2305843009213693952 ≤ n
  · have hd : decide ((2305843009213693952 : Int) ≤ (n : Int)) = true := decide_eq_true (by omega)
    have HP := Lib.hid (pad_long n hl W)
    have HNum := Lib.hid (fun w => number_some 3 (by omega) w)
    clear hl
    go_enter Tryd.func9, Tryd.ntmps9
    go_wp2_with fail
    refine HP.out.mono ?_
    rintro e w1 ⟨rfl, rfl⟩
    go_wp2_with fail
    refine (HNum.out _).mono ?_
    rintro e w1 ⟨rfl, rfl⟩
    go_wp2_with fail
    refine (HW.out _ HT.out).mono ?_
    rintro e w1 ⟨rfl, hb⟩
    go_wp2_with fail
    go_ret
    exact ⟨rfl, hb⟩
  · have hd : decide ((2305843009213693952 : Int) ≤ (n : Int)) = false := decide_eq_false (by omega)
    have HP := Lib.hid (pad_ok n (by omega) W)
    have hz64 := noughts_lt n
    have hfit := noughts_fit n
    have HAt := Lib.hid (fun i => pad_at n i (by omega))
    have hlen := padL_length n
    have HHd : Hid ((padL n)[0]? = some 128) := Lib.hid rfl
    obtain ⟨z, hz⟩ : ∃ z, noughts n = z := ⟨_, rfl⟩
    rw [hz] at hz64 hfit HAt hlen
    obtain ⟨P, hP⟩ : ∃ P, padL n = P := ⟨_, rfl⟩
    rw [hP] at HP hlen HAt HHd
    have HL := Lib.hid hlen
    rw [hlen] at HP
    obtain ⟨M, hM⟩ : ∃ M, 8 * n = M := ⟨_, rfl⟩
    have hM64 : M < 18446744073709551616 := by omega
    rw [hM] at HAt
    have HM := Lib.hid hM
    have hmul : IntKind.u64.wrap (8 * (n : Int)) = (M : Int) := by show (8 * (n : Int)) % 18446744073709551616 = _; omega
    have hsum : ((n : Int) + ((z : Int) + 9)) % 64 = 0 := by omega
    have hd9 : decide ((z : Int) + 9 < 9) = false := decide_eq_false (by omega)
    have hd72 : decide ((72 : Int) < (z : Int) + 9) = false := decide_eq_false (by omega)
    clear hz hP hlen hM hfit
    go_enter Tryd.func9, Tryd.ntmps9
    go_wp2_with fail
    refine HP.out.mono ?_
    rintro e w1 ⟨rfl, hw, hb⟩
    have HWh := Lib.hid hw
    have HB := Lib.hid hb
    unfold Whole at hw
    have c0 : w1.cell? ⟨W.heap.size, 0, none⟩ = some (.int .u8 128) := by
      rw [cell_of_heap hw, List.getElem?_toArray]
      simp [byteCells, HHd.out]
    clear hw hb
    go_wp2_with fail
    clear hsum hd9 hd72 c0
    have HS : Hid (∃ i : Nat, Value.int .i64 0 = .int .i64 i ∧ i ≤ z + 8 ∧ Value.int .u64 0 = .int .u64 (topN M (z + 8 - i) : Int)) := Lib.hid ⟨0, rfl, Nat.zero_le _, by rw [topN_zero M _ hM64 (by omega)]; rfl⟩
    go_loop [5, 56] (fun t v => ∃ i : Nat, v = .int .i64 i ∧ i ≤ z + 8 ∧ t = .int .u64 (topN M (z + 8 - i) : Int)) (fun _ v => z + 8 - (RowKit.intOf v).toNat)
    case atStart => exact HS.out
    case round =>
      clear HS
      obtain ⟨i, rfl, hi, rfl⟩ := hrel
      by_cases hlt : i < z + 8
      · obtain ⟨k, hk⟩ : ∃ k, z + 7 - i = k := ⟨_, rfl⟩
        have hk1 : z + 8 - i = k + 1 := by omega
        have hel := HAt.out i hlt
        rw [hk] at hel
        have hstep := told_step M k hM64
        obtain ⟨y, hy⟩ : ∃ y, topN M k % 256 = y := ⟨_, rfl⟩
        rw [hy] at hstep
        have hyl : y < 256 := by omega
        have hyz : i < z → y = 0 := fun h => by rw [← hy, topN_zero M k hM64 (by omega)]
        have hc : w1.cell? ⟨W.heap.size, 1 + i, none⟩ = some (.int .u8 (y : Int)) := by
          have h := HWh.out
          unfold Whole at h
          rw [cell_of_heap h, List.getElem?_toArray]
          rw [List.getElem?_drop] at hel
          unfold byteCells
          rw [List.getElem?_map, hel]
          simp only [Option.map_some, UInt8.toNat_ofNat']
          rw [← hy]
        have hdl : decide ((i : Int) < (z : Int) + 8) = true := decide_eq_true (by omega)
        have hil : (i : Int) < (z : Int) + 8 := by omega
        have HEnd : Hid (∃ i_1 : Nat, Value.int .i64 ((i : Int) + 1) = .int .i64 i_1 ∧ i_1 ≤ z + 8 ∧ Value.int .u64 (topN M k : Int) = .int .u64 (topN M (z + 8 - i_1) : Int)) := Lib.hid ⟨i + 1, by go_num, by omega, by rw [show z + 8 - (i + 1) = k from by omega]⟩
        rw [hk1]
        clear hel hy hk hk1
        by_cases hz : i < z
        · obtain rfl : 0 = y := (hyz hz).symm
          have hdz : decide ((i : Int) < (z : Int)) = true := decide_eq_true (by omega)
          clear hyz
          go_wp2_with fail
          go_round
          case rel =>
            have e1 : bits .or .u64 (IntKind.u64.wrap ((topN M (k + 1) : Int) * 256)) 0 = (topN M k : Int) := hstep
            rw [e1]
            exact HEnd.out
          case measure => simp [RowKit.intOf]; omega
        · have hdz : decide ((i : Int) < (z : Int)) = false := decide_eq_false (by omega)
          clear hyz
          go_wp2_with fail
          go_round
          case rel =>
            have e1 : bits .or .u64 (IntKind.u64.wrap ((topN M (k + 1) : Int) * 256)) (y : Int) = (topN M k : Int) := hstep
            rw [e1]
            exact HEnd.out
          case measure => simp [RowKit.intOf]; omega
      · obtain rfl : i = z + 8 := by omega
        have hdl : decide ((z : Int) + 8 < (z : Int) + 8) = false := decide_eq_false (by omega)
        have ht0 : topN M (z + 8 - (z + 8)) = M := by rw [Nat.sub_self]; unfold topN; simp
        rw [ht0]
        have HTw : Hid (Tab w1) := Lib.hid (HT.out.below HB.out)
        clear ht0 hlt hi
        go_wp2_with fail
        refine (HW.out _ HTw.out).mono ?_
        rintro e w2 ⟨rfl, hb2⟩
        go_wp2_with fail
        go_ret
        exact ⟨rfl, HB.out.trans (hb2.mono HB.out.size)⟩

theorem shaPads_walk (x : Int) (W : World) (hT : Tab W) (h : (Lit.int .u64 x).wf = true) : Calls Tryd.prog 9 #[.int .u64 x] W fun e w' => e = .returned (.bool true) ∧ Below W.heap.size W w' := by
  have hb : 0 ≤ x ∧ x ≤ 18446744073709551615 := by simpa [Lit.wf, IntKind.min, IntKind.max, IntKind.signed, IntKind.bits] using h
  obtain ⟨n, rfl⟩ := Int.eq_ofNat_of_zero_le hb.1
  exact pads_walk n (by omega) W hT

end Go.Proofs.YtphgaemmbdogmaaDoor
