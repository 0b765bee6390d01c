/- The contracts of utf's Check over bytes. -/
import Derived.Test.YtjbhehkkigopmaaUtfCount
namespace Go.Proofs.Ytjbhehkkigopmaa
open Go.RowKit Go.Joins Go.Lib

set_option maxRecDepth 100000 in
set_option maxHeartbeats 4000000 in
theorem check_bytes (p : Option Addr) (cap : Nat) (l : List UInt8) (w : World) (hB : Bytes w.heap.size w.heap.size p l w) (hlen : l.length ≤ 140737488351232) :
    Calls Try.prog 46 #[.slice p l.length cap] w fun e w' => e = .returned (wrongAs (chk l 0 cur0)) ∧ Below w.heap.size w w' := by
  obtain ⟨r, hr⟩ : ∃ r, chk l 0 cur0 = r := ⟨_, rfl⟩
  rw [hr]
  have HR := Lib.hid hr
  have HB := Lib.hid hB
  obtain ⟨n, hn⟩ : ∃ n, l.length = n := ⟨_, rfl⟩
  have HN := Lib.hid hn
  rw [hn] at hlen ⊢
  clear hr hB hn
  go_enter Try.func46, Try.ntmps46
  go_wp2_with fail
  go_loopw [4] (fun v wr => ∃ (i : Nat) (c : Cur), i ≤ n ∧ v = .int .i64 i ∧ c.ok ∧ CurAt c w.heap.size wr ∧ Below w.heap.size w wr ∧ Hid (chk (l.drop i) i c = r)) (fun v _ => n - (intOf v).toNat)
  case atStart => exact ⟨0, cur0, Nat.zero_le _, rfl, cur0_ok, (MapKept.heap_alloc w _).1, by go_grown, HR⟩
  case round =>
    obtain ⟨i, c, hi, rfl, hok, hc, hb, hk⟩ := hrel
    have hc0 : wr.cell? ⟨w.heap.size, 0, none⟩ = some (.int .i64 c.left) := by rw [cell_of_block hc]; rfl
    have hc1 : wr.cell? ⟨w.heap.size, 1, none⟩ = some (.int .u8 c.least) := by rw [cell_of_block hc]; rfl
    have hc2 : wr.cell? ⟨w.heap.size, 2, none⟩ = some (.int .u8 c.most) := by rw [cell_of_block hc]; rfl
    have hw := hb.size
    by_cases hlt : i < n
    · have hl : i < l.length := by rw [HN.out]; exact hlt
      have hd : l.drop i = l[i] :: l.drop (i + 1) := List.drop_eq_getElem_cons hl
      obtain ⟨pb, off, rfl, hpb, _, hcell⟩ := HB.out (by intro e; rw [e] at hl; simp at hl)
      have hx0 := (hb.cell (p := ⟨pb, off + i, none⟩) hpb).trans (hcell i hl)
      obtain ⟨x, hxe⟩ : ∃ x, l[i] = x := ⟨_, rfl⟩
      rw [hxe] at hd hx0
      have HD := Lib.hid hd
      clear hd hcell hxe
      have hx := x.toNat_lt
      by_cases ha : c.left = 0 ∧ x.toNat < 128
      · obtain ⟨a1, a2⟩ := ha
        have e1 : (((c.left : Nat) : Int) == 0) = true := by rw [a1]; rfl
        have e2 : decide (((x.toNat : Nat) : Int) < 128) = true := decide_eq_true (by omega)
        have hst : stepC c x.toNat = some c := by unfold stepC; rw [if_neg (by omega), if_pos a2]
        have hk2 := hk.out
        rw [HD.out, chk_on _ _ _ _ _ hst] at hk2
        have HK := Lib.hid hk2
        clear a1 a2 hst hk2 hk
        go_wp2_with fail
        go_roundw
        case rel => exact ⟨i + 1, c, by omega, by go_num, hok, hc, hb, HK⟩
        case measure => simp [intOf]; omega
      · have hg : (((c.left : Nat) : Int) == 0) = false ∨ ((((c.left : Nat) : Int) == 0) = true ∧ decide (((x.toNat : Nat) : Int) < 128) = false) := by
          by_cases h0 : c.left = 0
          · exact .inr ⟨by rw [h0]; rfl, decide_eq_false (by omega)⟩
          · exact .inl (by rw [beq_eq_false_iff_ne]; omega)
        clear ha
        have S := step_any c hok x.toNat w.heap.size (by omega) wr hc
        cases hst : stepC c x.toNat with
        | none =>
          have S' : Calls Try.prog 50 #[.pointer (some ⟨w.heap.size, 0, none⟩), .int .u8 x.toNat] wr fun e w' => e = .returned (.bool false) ∧ CurAt c w.heap.size w' ∧ But wr.heap.size w.heap.size wr w' :=
            S.mono fun e w' h => by
              unfold Stepped at h
              rw [hst] at h
              exact h
          have HS := Lib.hid S'
          have hk2 := hk.out
          rw [HD.out, chk_wrong _ _ _ _ hst] at hk2
          have HK := Lib.hid hk2
          clear S S' hst hk2 hk
          rcases hg with e1 | ⟨e1, e2⟩
          all_goals
            go_wp2_with fail
            refine HS.out.mono ?_
            rintro e w1 ⟨rfl, hc', hb1⟩
            have hc0' : w1.cell? ⟨w.heap.size, 0, none⟩ = some (.int .i64 c.left) := by rw [cell_of_block hc']; rfl
            have hc1' : w1.cell? ⟨w.heap.size, 1, none⟩ = some (.int .u8 c.least) := by rw [cell_of_block hc']; rfl
            have hc2' : w1.cell? ⟨w.heap.size, 2, none⟩ = some (.int .u8 c.most) := by rw [cell_of_block hc']; rfl
            go_wp2_with fail
            refine (fault_any _ true c.left c.least c.most _).mono ?_
            rintro e w2 ⟨rfl, hb2⟩
            go_wp2_with fail
            go_ret
            have hb3 := hb.trans (hb1.below (Nat.le_refl _) hw)
            refine ⟨?_, hb3.trans (hb2.mono hb3.size)⟩
            rw [← HK.out]
            rfl
        | some d =>
          have S' : Calls Try.prog 50 #[.pointer (some ⟨w.heap.size, 0, none⟩), .int .u8 x.toNat] wr fun e w' => e = .returned (.bool true) ∧ CurAt d w.heap.size w' ∧ But wr.heap.size w.heap.size wr w' :=
            S.mono fun e w' h => by
              unfold Stepped at h
              rw [hst] at h
              exact h
          have HS := Lib.hid S'
          have hokd := stepC_ok hok hst
          have hk2 := hk.out
          rw [HD.out, chk_on _ _ _ _ _ hst] at hk2
          have HK := Lib.hid hk2
          clear S S' hst hk2 hk
          rcases hg with e1 | ⟨e1, e2⟩
          all_goals
            go_wp2_with fail
            refine HS.out.mono ?_
            rintro e w1 ⟨rfl, hc', hb1⟩
            clear hc0 hc1 hc2
            go_wp2_with fail
            go_roundw
            case rel => exact ⟨i + 1, d, by omega, by go_num, hokd, hc', hb.trans (hb1.below (Nat.le_refl _) hw), HK⟩
            case measure => simp [intOf]; omega
    · obtain rfl : i = n := by omega
      have hk2 := hk.out
      rw [List.drop_of_length_le (by rw [HN.out]; exact Nat.le_refl _)] at hk2
      have HK := Lib.hid hk2
      clear hk2 hk
      go_wp2_with fail
      refine (fault_any _ false c.left c.least c.most _).mono ?_
      rintro e w2 ⟨rfl, hb2⟩
      go_wp2_with fail
      go_ret
      refine ⟨?_, hb.trans (hb2.mono hw)⟩
      rw [← HK.out]
      rfl


theorem check_any (p : Option Addr) (cap : Nat) (l : List UInt8) (w : World) (hB : Bytes w.heap.size w.heap.size p l w) (hlen : l.length ≤ 140737488351232) :
    Calls Try.prog 18 #[.slice p l.length cap] w fun e w' => e = .returned (wrongAs (chk l 0 cur0)) ∧ Below w.heap.size w w' := by
  have HC := Lib.hid (check_bytes p cap l w hB hlen)
  obtain ⟨r, hr⟩ : ∃ r, wrongAs (chk l 0 cur0) = r := ⟨_, rfl⟩
  obtain ⟨n, hn⟩ : ∃ n, l.length = n := ⟨_, rfl⟩
  rw [hr, hn] at HC
  rw [hr, hn]
  clear hr hn hB hlen
  go_enter Try.func18, Try.ntmps18
  go_wp2_with fail
  refine HC.out.mono ?_
  rintro e w1 ⟨rfl, hb⟩
  go_wp2_with fail
  go_ret
  exact ⟨rfl, hb⟩
end Go.Proofs.Ytjbhehkkigopmaa
