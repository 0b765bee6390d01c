/- The reference's Pad: its contract. -/
import Derived.Test.YtjjahcidncnogaaDoorRefF
import Derived.Test.YtjjahcidncnogaaDoorShaPadC
import Derived.Test.YtjjahcidncnogaaDoorShaFreshA
namespace Go.Proofs.YtjjahcidncnogaaDoor
open Go.ChangeShapes Go.WideShapes Go.ChangeAt Go.RowKit Go.Lib

/-- 128, and k noughts. -/
def padZ (k : Nat) : List UInt8 := 128 :: List.replicate k 0
theorem padZ_length (k : Nat) : (padZ k).length = k + 1 := by unfold padZ; rw [List.length_cons, List.length_replicate]
/-- And so many bytes of the number behind them. -/
def padT (n j : Nat) : List UInt8 := padZ (noughts n) ++ (List.range j).map fun i => byteN n (7 - i)
theorem padT_length (n j : Nat) : (padT n j).length = noughts n + 1 + j := by unfold padT; rw [List.length_append, padZ_length, List.length_map, List.length_range]
theorem padT_all (n : Nat) : padT n 8 = padL n := by
  unfold padT padL padK padZ
  rw [Nat.add_sub_cancel, List.cons_append]
  congr 2
theorem noughts_more (n k : Nat) (hk : k < noughts n) : (n + (k + 1) + 8) % 64 ≠ 0 := by unfold noughts at hk; omega
theorem noughts_done (n : Nat) : (n + (noughts n + 1) + 8) % 64 = 0 := by unfold noughts; omega
theorem padZ_step (k : Nat) : padZ (k + 1) = padZ k ++ [0] := by
  unfold padZ
  rw [List.replicate_succ', List.cons_append]
theorem padT_step (n j : Nat) : padT n (j + 1) = padT n j ++ [byteN n (7 - j)] := by
  unfold padT
  rw [List.range_succ, List.map_append, List.append_assoc]
  rfl

set_option maxRecDepth 100000 in
set_option maxHeartbeats 8000000 in
theorem refPad_any (n : Nat) (hn : n < 18446744073709551616) (w : World) :
    Calls Tryd.prog 93 #[.int .u64 (n : Int)] w fun e w' => ∃ q c, e = .returned (.slice q (padL n).length c) ∧ w'.ownsRow w.heap.size 5 1 (.slice q (padL n).length c) (padL n).length (Go.Lib.byteCells (padL n)) ∧ Below w.heap.size w w' := by
  have HN := Lib.hid hn
  have hO0 : (w.alloc (.cells (Go.Lib.byteCells [128]).toArray 5)).ownsRow w.heap.size 5 1 (.slice (some ⟨w.heap.size, 0, none⟩) 1 1) 1 (Go.Lib.byteCells (padZ 0)) :=
    ⟨rfl, .inr ⟨w.heap.size, 1, _, rfl, Nat.le_refl _, (MapKept.heap_alloc w _).1, Nat.le_refl _, by decide, rfl, rfl⟩⟩
  obtain ⟨v1, hv1⟩ : ∃ v, v = w.alloc (.cells (Go.Lib.byteCells [128]).toArray 5) := ⟨_, rfl⟩
  have HV1 := Lib.hid hv1.symm
  rw [← hv1] at hO0
  have HX : Hid (∃ (k : Nat) (q : Option Addr) (c : Nat), Value.slice (some ⟨w.heap.size, 0, none⟩) 1 1 = .slice q (k + 1) c ∧ k ≤ noughts n ∧ Hid (v1.ownsRow w.heap.size 5 1 (.slice q (k + 1) c) (k + 1) (Go.Lib.byteCells (padZ k))) ∧ Hid (Below w.heap.size w v1)) := Lib.hid
    ⟨0, _, _, rfl, Nat.zero_le _, Lib.hid hO0, Lib.hid (by rw [hv1]; exact (Below.refl _ w).alloc (Nat.le_refl _) _)⟩
  have HNl := Lib.hid (noughts_lt n)
  clear hO0 hv1 hn
  go_enter Tryd.func93, Tryd.ntmps93
  go_wp2_with fail
  refine code_at HV1.out ?_
  go_loopw [3] (fun s wr => ∃ (k : Nat) (q : Option Addr) (c : Nat), s = .slice q (k + 1) c ∧ k ≤ noughts n ∧ Hid (wr.ownsRow w.heap.size 5 1 (.slice q (k + 1) c) (k + 1) (Go.Lib.byteCells (padZ k))) ∧ Hid (Below w.heap.size w wr)) (fun s _ => 64 - lenOf s)
  case atStart => exact HX.out
  case round =>
    clear HX
    obtain ⟨k, q, c, rfl, hk, ho, hb⟩ := hrel
    have hk64 : k < 64 := by have := HNl.out; omega
    have ek : IntKind.u64.wrap ((k : Int) + 1) = (k : Int) + 1 := by rw [wrap64]; omega
    obtain ⟨s, hs⟩ : ∃ s : Nat, (n + (k + 1) + 8) % 18446744073709551616 = s := ⟨_, rfl⟩
    have e1 : IntKind.u64.wrap (IntKind.u64.wrap ((n : Int) + ((k : Int) + 1)) + 8) = (s : Int) := by rw [wrap64, wrap64, ← hs]; omega
    have HS := Lib.hid hs
    by_cases hlt : k < noughts n
    · have hne : ¬ ((s % 64 : Nat) : Int) = 0 := by have := noughts_more n k hlt; omega
      have e2 : (s : Int) % 64 = ((s % 64 : Nat) : Int) := by omega
      obtain ⟨r, hr⟩ : ∃ r : Nat, s % 64 = r := ⟨_, rfl⟩
      rw [hr] at hne e2
      have HO2 := Lib.hid (ho.out.alloc (.cells (Go.Lib.byteCells [0]).toArray 5))
      have HL0 := Lib.hid (lit_bytes wr [0])
      have HG0 : Hid (Below w.heap.size w (wr.alloc (.cells (Go.Lib.byteCells [0]).toArray 5))) := Lib.hid (hb.out.alloc hb.out.size _)
      clear ho hb hs hr
      go_wp2_with (refine wpList_append_piece rfl (.tmp 14) (.tmp 15) rfl w.heap.size _ (k + 1) (padZ k) rfl HO2.out (some ⟨wr.heap.size, 0, none⟩) 1 1 (k + 1 + 1) [0] rfl rfl (fun h => by cases h) _ _ HL0.out rfl (by omega) HG0.out.size ?_)
      intro q4 k4 w4 ho4 hg4
      have HO4 : Hid (w4.ownsRow w.heap.size 5 1 (.slice q4 (k + 1 + 1) k4) (k + 1 + 1) (Go.Lib.byteCells (padZ (k + 1)))) := Lib.hid (by rw [padZ_step]; exact ho4)
      have HG4 : Hid (Below w.heap.size w w4) := Lib.hid (HG0.out.grown hg4 HG0.out.size (fun k hk => (HO2.out.lt k hk).1))
      clear ho4 hg4
      go_wp2_with fail
      go_roundw
      case rel => exact ⟨k + 1, q4, k4, rfl, hlt, HO4, HG4⟩
      case measure => have := HNl.out; simp [lenOf]; omega
    · obtain rfl : k = noughts n := by omega
      have h0 : s % 64 = 0 := by have := noughts_done n; omega
      have e2 : (s : Int) % 64 = 0 := by omega
      have HY : Hid (∃ (j : Nat) (q' : Option Addr) (c' : Nat), Value.slice q (noughts n + 1) c = .slice q' (noughts n + 1 + j) c' ∧ Value.int .i64 56 = .int .i64 (56 - 8 * (j : Int)) ∧ j ≤ 8 ∧ Hid (wr.ownsRow w.heap.size 5 1 (.slice q' (noughts n + 1 + j) c') (noughts n + 1 + j) (Go.Lib.byteCells (padT n j))) ∧ Hid (Below w.heap.size w wr)) := Lib.hid
        ⟨0, q, c, rfl, rfl, by decide, Lib.hid (by have h := ho.out; unfold padT; rw [List.range_zero, List.map_nil, List.append_nil]; exact h), hb⟩
      obtain ⟨wq, hwq⟩ : ∃ wq : World, wq = wr := ⟨_, rfl⟩
      rw [← hwq] at HY ⊢
      obtain ⟨nn, hnn⟩ : ∃ m, noughts n = m := ⟨_, rfl⟩
      have HNN := Lib.hid hnn
      rw [hnn] at HY ek e1 ⊢
      have hk64' : nn < 64 := by omega
      clear ho hb hs hk hlt h0 hwq hnn hk64
      go_wp2_with fail
      clear ek e1 e2
      go_loopw [3, 4] (fun s v wr => ∃ (j : Nat) (q' : Option Addr) (c' : Nat), s = .slice q' (nn + 1 + j) c' ∧ v = .int .i64 (56 - 8 * (j : Int)) ∧ j ≤ 8 ∧ Hid (wr.ownsRow w.heap.size 5 1 (.slice q' (nn + 1 + j) c') (nn + 1 + j) (Go.Lib.byteCells (padT n j))) ∧ Hid (Below w.heap.size w wr)) (fun _ v _ => (RowKit.intOf v + 8).toNat)
      case atStart => exact HY.out
      case round =>
        clear HY
        obtain ⟨j, q', c', rfl, rfl, hj, ho, hb⟩ := hrel
        obtain ⟨M, hM⟩ : ∃ M : Nat, 8 * n % 18446744073709551616 = M := ⟨_, rfl⟩
        have em : IntKind.u64.wrap (8 * (n : Int)) = (M : Int) := by rw [wrap64, ← hM]; omega
        by_cases hlt : j < 8
        · obtain ⟨i, hi⟩ : ∃ i : Nat, 56 - 8 * j = i := ⟨_, rfl⟩
          have ei : (56 : Int) - 8 * (j : Int) = (i : Int) := by omega
          obtain ⟨T, hT⟩ : ∃ T : Nat, M / 2 ^ i = T := ⟨_, rfl⟩
          have hsh : Op.shift .shr .u64 (M : Int) .i64 (i : Int) = pure (.int .u64 (T : Int)) := by
            rw [shift_shr .u64 .i64 (M : Int) (i : Int) (by omega) (by show (i : Int) ≤ 64; omega)]
            have e : (M : Int) / 2 ^ (i : Int).toNat = (T : Int) := by rw [← hT]; simp
            rw [e]
          have hT8 : IntKind.u8.wrap (T : Int) = (((byteN n (7 - j)).toNat : Nat) : Int) := by
            rw [IntKind.wrap_u8]
            unfold byteN
            rw [hM, show 8 * (7 - j) = i from by omega, hT, UInt8.toNat_ofNat']
            omega
          obtain ⟨z, hz⟩ : ∃ z, byteN n (7 - j) = z := ⟨_, rfl⟩
          have HZ := Lib.hid hz
          rw [hz] at hT8
          have hi0 : (0 : Int) ≤ (i : Int) := by omega
          have hd : decide ((i : Int) ≥ 0) = true := decide_eq_true (by omega)
          have hiw : IntKind.i64.wrap ((i : Int) - 8) = (i : Int) - 8 := by rw [IntKind.wrap_i64]; omega
          have HI : Hid ((i : Int) - 8 = 56 - 8 * ((j + 1 : Nat) : Int)) := Lib.hid (by omega)
          obtain ⟨m, hm⟩ : ∃ m, nn + 1 + j = m := ⟨_, rfl⟩
          have HMM := Lib.hid hm
          have HO2 := Lib.hid (ho.out.alloc (.cells (Go.Lib.byteCells [z]).toArray 5))
          have HL0 := Lib.hid (lit_bytes wr [z])
          have HG0 : Hid (Below w.heap.size w (wr.alloc (.cells (Go.Lib.byteCells [z]).toArray 5))) := Lib.hid (hb.out.alloc hb.out.size _)
          rw [hm] at HO2 ⊢
          rw [ei]
          clear ho hb hT hM hi hz ei
          go_wp2_with (refine wpList_append_piece rfl (.tmp 21) (.tmp 27) rfl w.heap.size _ m (padT n j) rfl HO2.out (some ⟨wr.heap.size, 0, none⟩) 1 1 (m + 1) [z] rfl rfl (fun h => by cases h) _ _ HL0.out rfl (by omega) HG0.out.size ?_)
          intro q4 k4 w4 ho4 hg4
          have HO4 : Hid (w4.ownsRow w.heap.size 5 1 (.slice q4 (nn + 1 + (j + 1)) k4) (nn + 1 + (j + 1)) (Go.Lib.byteCells (padT n (j + 1)))) := Lib.hid (by
            rw [padT_step, HZ.out, show nn + 1 + (j + 1) = m + 1 by omega]
            exact ho4)
          have HG4 : Hid (Below w.heap.size w w4) := Lib.hid (HG0.out.grown hg4 HG0.out.size (fun k hk => (HO2.out.lt k hk).1))
          clear ho4 hg4
          go_wp2_with fail
          go_roundw
          case rel => exact ⟨j + 1, q4, k4, by rw [show nn + 1 + (j + 1) = m + 1 by have := HMM.out; omega], by rw [← HI.out], hlt, HO4, HG4⟩
          case measure => simp [RowKit.intOf]; omega
        · obtain rfl : j = 8 := by omega
          have e8 : (56 : Int) - 8 * ((8 : Nat) : Int) = -8 := by decide
          rw [e8]
          have HOf := Lib.hid ho.out
          have HGf := hb
          rw [padT_all] at HOf
          have HLn : Hid ((padL n).length = nn + 1 + 8) := Lib.hid (by rw [padL_length, HNN.out])
          clear ho hb hM em e8 hlt hj
          go_wp2_with fail
          go_ret
          exact ⟨q', c', by rw [HLn.out]; rfl, by rw [HLn.out]; exact HOf.out, HGf.out⟩
end Go.Proofs.YtjjahcidncnogaaDoor
