/- The contracts of utf's cursor: step, fault, check over a text, Right. -/
import Derived.Test.YtjbhehkkigopmaaRows
import Derived.Test.YtjbhehkkigopmaaBut
import Derived.Test.YtjbhehkkigopmaaUtfCur
import Derived.WalkKit
import Derived.Handy
import Derived.Deep.QuietTactic
import Derived.BigQuiet
import Derived.Lib.Hide
import Derived.LoopTactic
namespace Go.Proofs.Ytjbhehkkigopmaa
open Go.RowKit Go.Joins

/-- A cursor's block. -/
def CurAt (c : Cur) (K : Nat) (w : World) : Prop := w.heap[K]? = some (.cells #[.int .i64 c.left, .int .u8 c.least, .int .u8 c.most] 91 (0, 0))

/-- What a step leaves. -/
def Stepped (c : Cur) (x : Nat) (K : Nat) (w : World) (e : Ending) (w' : World) : Prop :=
  e = .returned (.bool (stepC c x).isSome) ∧ CurAt ((stepC c x).getD c) K w' ∧ But w.heap.size K w w'

theorem stepped_some {c d : Cur} {x K : Nat} {w w' : World} (h : stepC c x = some d) (hk : CurAt d K w') (hb : But w.heap.size K w w') : Stepped c x K w (.returned (.bool true)) w' := by
  unfold Stepped; rw [h]; exact ⟨rfl, hk, hb⟩
theorem stepped_none {c : Cur} {x K : Nat} {w : World} (h : stepC c x = none) (hk : CurAt c K w) : Stepped c x K w (.returned (.bool false)) w := by
  unfold Stepped; rw [h]; exact ⟨rfl, hk, But.refl _ _ _⟩
theorem cur_set {c d : Cur} {K : Nat} {w : World} (hk : CurAt c K w) : CurAt d K (((w.setCell ⟨K, 0, none⟩ (.int .i64 d.left)).setCell ⟨K, 1, none⟩ (.int .u8 d.least)).setCell ⟨K, 2, none⟩ (.int .u8 d.most)) :=
  row_set (row_set (row_set hk _) _) _
theorem cur_but {K : Nat} {w : World} (a b c : Value) : But w.heap.size K w (((w.setCell ⟨K, 0, none⟩ a).setCell ⟨K, 1, none⟩ b).setCell ⟨K, 2, none⟩ c) :=
  (((But.refl _ _ w).set (p := ⟨K, 0, none⟩) (.inl rfl) _).set (p := ⟨K, 1, none⟩) (.inl rfl) _).set (p := ⟨K, 2, none⟩) (.inl rfl) _
theorem stepC_lead (lo hi x : Nat) (h1 : 194 ≤ x) (h2 : x ≤ 244) : stepC ⟨0, lo, hi⟩ x = some ⟨if x < 224 then 1 else if x < 240 then 2 else 3, if x = 224 then 160 else if x = 240 then 144 else 128, if x = 237 then 159 else if x = 244 then 143 else 191⟩ := by
  unfold stepC
  rw [if_neg (by simp), if_neg (by omega), if_neg (by omega)]

set_option maxRecDepth 100000 in
set_option maxHeartbeats 4000000 in
theorem step_any (c : Cur) (hc : c.ok) (x K : Nat) (hx : x ≤ 255) (w : World) (hK : CurAt c K w) :
    Calls Try.prog 50 #[.pointer (some ⟨K, 0, none⟩), .int .u8 x] w (Stepped c x K w) := by
  obtain ⟨l, lo, hi⟩ := c
  obtain ⟨h1, h2, h3⟩ := hc
  simp only at h1 h2 h3
  unfold CurAt at hK
  simp only at hK
  have c0 : w.cell? ⟨K, 0, none⟩ = some (.int .i64 l) := by rw [cell_of_block hK]; rfl
  have c1 : w.cell? ⟨K, 1, none⟩ = some (.int .u8 lo) := by rw [cell_of_block hK]; rfl
  have c2 : w.cell? ⟨K, 2, none⟩ = some (.int .u8 hi) := by rw [cell_of_block hK]; rfl
  have f0 : w.frozen? ⟨K, 0, none⟩ = false := unfrozen_of_block hK 0
  have f1 : w.frozen? ⟨K, 1, none⟩ = false := unfrozen_of_block hK 1
  have f2 : w.frozen? ⟨K, 2, none⟩ = false := unfrozen_of_block hK 2
  by_cases hl : 0 < l
  · by_cases hb : x < lo ∨ hi < x
    · have fin : ∀ w', w = w' → Stepped ⟨l, lo, hi⟩ x K w (.returned (.bool false)) w' := by
        rintro _ rfl
        simp [Stepped, stepC, hl, hb, CurAt, hK, But.refl]
      have HF := Lib.hid fin
      clear fin
      rcases hb with hb | hb
      · go_enter Try.func50, Try.ntmps50
        go_wp2
        go_ret
        exact HF.out _ rfl
      · by_cases hb' : x < lo
        · go_enter Try.func50, Try.ntmps50
          go_wp2
          go_ret
          exact HF.out _ rfl
        · go_enter Try.func50, Try.ntmps50
          go_wp2
          go_ret
          exact HF.out _ rfl
    · have hb1 : ¬ x < lo := by omega
      have hb2 : ¬ hi < x := by omega
      clear hb
      go_enter Try.func50, Try.ntmps50
      go_wp2
      go_ret
      have e : (l : Int) - 1 = ((l - 1 : Nat) : Int) := by omega
      rw [e]
      exact stepped_some (d := ⟨l - 1, 128, 191⟩) (by unfold stepC; rw [if_pos hl, if_neg (by simp only; omega)]) (cur_set (c := ⟨l, lo, hi⟩) (d := ⟨l - 1, 128, 191⟩) hK) (cur_but _ _ _)
  · obtain rfl : l = 0 := by omega
    have ne : ∀ n : Int, ((x : Int) == n) = false → (x : Int) ≠ n := fun n h => by simpa using h
    have eq : ∀ n : Int, ((x : Int) == n) = true → (x : Int) = n := fun n h => by simpa using h
    have NE := Lib.hid ne
    have EQ := Lib.hid eq
    clear ne eq
    go_enter Try.func50, Try.ntmps50
    go_wp2
    · go_ret
      exact stepped_some (d := ⟨0, lo, hi⟩) (by unfold stepC; rw [if_neg (by simp), if_pos (by omega)]) hK (But.refl _ _ _)
    · go_ret
      exact stepped_none (by unfold stepC; rw [if_neg (by simp), if_neg (by omega), if_pos (by omega)]) hK
    · go_ret
      exact stepped_some (d := ⟨1, 128, 191⟩) (by rw [stepC_lead lo hi x (by omega) (by omega)]; simp only [Option.some.injEq, Cur.mk.injEq]; refine ⟨?_, ?_, ?_⟩ <;> (repeat' split) <;> omega) (cur_set (c := ⟨0, lo, hi⟩) (d := ⟨1, 128, 191⟩) hK) (cur_but _ _ _)
    · have q0 := EQ.out 224 (by assumption)
      go_ret
      exact stepped_some (d := ⟨2, 160, 191⟩) (by rw [stepC_lead lo hi x (by omega) (by omega)]; simp only [Option.some.injEq, Cur.mk.injEq]; refine ⟨?_, ?_, ?_⟩ <;> (repeat' split) <;> omega) (row_set (i := 1) (cur_set (c := ⟨0, lo, hi⟩) (d := ⟨2, 128, 191⟩) hK) (.int .u8 160)) ((cur_but _ _ _).set (p := ⟨K, 1, none⟩) (.inl rfl) _)
    · have q0 := NE.out 224 (by assumption)
      have q1 := EQ.out 237 (by assumption)
      go_ret
      exact stepped_some (d := ⟨2, 128, 159⟩) (by rw [stepC_lead lo hi x (by omega) (by omega)]; simp only [Option.some.injEq, Cur.mk.injEq]; refine ⟨?_, ?_, ?_⟩ <;> (repeat' split) <;> omega) (row_set (i := 2) (cur_set (c := ⟨0, lo, hi⟩) (d := ⟨2, 128, 191⟩) hK) (.int .u8 159)) ((cur_but _ _ _).set (p := ⟨K, 2, none⟩) (.inl rfl) _)
    · have q0 := NE.out 224 (by assumption)
      have q1 := NE.out 237 (by assumption)
      go_ret
      exact stepped_some (d := ⟨2, 128, 191⟩) (by rw [stepC_lead lo hi x (by omega) (by omega)]; simp only [Option.some.injEq, Cur.mk.injEq]; refine ⟨?_, ?_, ?_⟩ <;> (repeat' split) <;> omega) (cur_set (c := ⟨0, lo, hi⟩) (d := ⟨2, 128, 191⟩) hK) (cur_but _ _ _)
    · have q0 := EQ.out 240 (by assumption)
      go_ret
      exact stepped_some (d := ⟨3, 144, 191⟩) (by rw [stepC_lead lo hi x (by omega) (by omega)]; simp only [Option.some.injEq, Cur.mk.injEq]; refine ⟨?_, ?_, ?_⟩ <;> (repeat' split) <;> omega) (row_set (i := 1) (cur_set (c := ⟨0, lo, hi⟩) (d := ⟨3, 128, 191⟩) hK) (.int .u8 144)) ((cur_but _ _ _).set (p := ⟨K, 1, none⟩) (.inl rfl) _)
    · have q0 := NE.out 240 (by assumption)
      have q1 := EQ.out 244 (by assumption)
      go_ret
      exact stepped_some (d := ⟨3, 128, 143⟩) (by rw [stepC_lead lo hi x (by omega) (by omega)]; simp only [Option.some.injEq, Cur.mk.injEq]; refine ⟨?_, ?_, ?_⟩ <;> (repeat' split) <;> omega) (row_set (i := 2) (cur_set (c := ⟨0, lo, hi⟩) (d := ⟨3, 128, 191⟩) hK) (.int .u8 143)) ((cur_but _ _ _).set (p := ⟨K, 2, none⟩) (.inl rfl) _)
    · have q0 := NE.out 240 (by assumption)
      have q1 := NE.out 244 (by assumption)
      go_ret
      exact stepped_some (d := ⟨3, 128, 191⟩) (by rw [stepC_lead lo hi x (by omega) (by omega)]; simp only [Option.some.injEq, Cur.mk.injEq]; refine ⟨?_, ?_, ?_⟩ <;> (repeat' split) <;> omega) (cur_set (c := ⟨0, lo, hi⟩) (d := ⟨3, 128, 191⟩) hK) (cur_but _ _ _)
    · go_ret
      exact stepped_none (by unfold stepC; rw [if_neg (by simp), if_neg (by omega), if_pos (by omega)]) hK

/-- What check answers. -/
def wrongAs (r : Nat × Bool × Cur) : Value :=
  if r.2.1 = true then .iface 81 (.agg #[.int .i64 30, .int .i64 r.1]) else if 0 < r.2.2.left then .iface 81 (.agg #[.int .i64 31, .int .i64 r.1]) else .nilIface

set_option maxRecDepth 100000 in
theorem fault_any (n : Nat) (wrong : Bool) (l lo hi : Nat) (w : World) :
    Calls Try.prog 62 #[.int .i64 n, .bool wrong, .agg #[.int .i64 l, .int .u8 lo, .int .u8 hi]] w fun e w' =>
      e = .returned (wrongAs (n, wrong, ⟨l, lo, hi⟩)) ∧ Below w.heap.size w w' := by
  unfold wrongAs
  simp only
  cases wrong
  · by_cases h : 0 < l
    · rw [if_neg (by decide), if_pos h]
      go_enter Try.func62, Try.ntmps62
      go_wp2
      go_ret
      exact ⟨rfl, by go_grown⟩
    · rw [if_neg (by decide), if_neg h]
      go_enter Try.func62, Try.ntmps62
      go_wp2
      go_ret
      exact ⟨rfl, by go_grown⟩
  · rw [if_pos rfl]
    go_enter Try.func62, Try.ntmps62
    go_wp2
    go_ret
    exact ⟨rfl, by go_grown⟩

set_option maxRecDepth 100000 in
set_option maxHeartbeats 4000000 in
theorem check_text (s : ByteArray) (hs : s.size ≤ 9223372036854775807) (w : World) :
    Calls Try.prog 47 #[.string s] w fun e w' => e = .returned (wrongAs (chk s.data.toList 0 cur0)) ∧ Below w.heap.size w w' := by
  obtain ⟨r, hr⟩ : ∃ r, chk s.data.toList 0 cur0 = r := ⟨_, rfl⟩
  rw [hr]
  have HR := Lib.hid hr
  clear hr
  go_enter Try.func47, Try.ntmps47
  go_wp2_with fail
  go_loopw [4] (fun v wr => ∃ (i : Nat) (c : Cur), i ≤ s.size ∧ v = .int .i64 i ∧ c.ok ∧ CurAt c w.heap.size wr ∧ Below w.heap.size w wr ∧ Hid (chk (s.data.toList.drop i) i c = r)) (fun v _ => s.size - (intOf v).toNat)
  case atStart => exact ⟨0, cur0, Nat.zero_le _, rfl, cur0_ok, (MapKept.heap_alloc w _).1, by go_grown, HR⟩
  case round =>
    obtain ⟨i, c, hi, rfl, hok, hc, hb, hk⟩ := hrel
    have hc0 : wr.cell? ⟨w.heap.size, 0, none⟩ = some (.int .i64 c.left) := by rw [cell_of_block hc]; rfl
    have hc1 : wr.cell? ⟨w.heap.size, 1, none⟩ = some (.int .u8 c.least) := by rw [cell_of_block hc]; rfl
    have hc2 : wr.cell? ⟨w.heap.size, 2, none⟩ = some (.int .u8 c.most) := by rw [cell_of_block hc]; rfl
    have hw := hb.size
    by_cases hlt : i < s.size
    · have hl : i < s.data.toList.length := by rw [Array.length_toList]; exact hlt
      have hd : s.data.toList.drop i = s[i] :: s.data.toList.drop (i + 1) := List.drop_eq_getElem_cons hl
      have HD := Lib.hid hd
      clear hd
      have hx := s[i].toNat_lt
      by_cases ha : c.left = 0 ∧ s[i].toNat < 128
      · obtain ⟨a1, a2⟩ := ha
        have e1 : (((c.left : Nat) : Int) == 0) = true := by rw [a1]; rfl
        have e2 : decide (((s[i].toNat : Nat) : Int) < 128) = true := decide_eq_true (by omega)
        have hst : stepC c s[i].toNat = some c := by unfold stepC; rw [if_neg (by omega), if_pos a2]
        have hk2 := hk.out
        rw [HD.out, chk_on _ _ _ _ _ hst] at hk2
        have HK := Lib.hid hk2
        clear a1 a2 hst hk2 hk
        go_wp2_with fail
        go_roundw
        case rel => exact ⟨i + 1, c, by omega, by go_num, hok, hc, hb, HK⟩
        case measure => simp [intOf]; omega
      · have hg : (((c.left : Nat) : Int) == 0) = false ∨ ((((c.left : Nat) : Int) == 0) = true ∧ decide (((s[i].toNat : Nat) : Int) < 128) = false) := by
          by_cases h0 : c.left = 0
          · exact .inr ⟨by rw [h0]; rfl, decide_eq_false (by omega)⟩
          · exact .inl (by rw [beq_eq_false_iff_ne]; omega)
        clear ha
        have S := step_any c hok s[i].toNat w.heap.size (by omega) wr hc
        cases hst : stepC c s[i].toNat with
        | none =>
          have S' : Calls Try.prog 50 #[.pointer (some ⟨w.heap.size, 0, none⟩), .int .u8 s[i].toNat] wr fun e w' => e = .returned (.bool false) ∧ CurAt c w.heap.size w' ∧ But wr.heap.size w.heap.size wr w' :=
            S.mono fun e w' h => by
              unfold Stepped at h
              rw [hst] at h
              exact h
          have HS := Lib.hid S'
          have hk2 := hk.out
          rw [HD.out, chk_wrong _ _ _ _ hst] at hk2
          have HK := Lib.hid hk2
          clear S S' hst hk2 hk
          rcases hg with e1 | ⟨e1, e2⟩
          all_goals
            go_wp2_with fail
            refine HS.out.mono ?_
            rintro e w1 ⟨rfl, hc', hb1⟩
            have hc0' : w1.cell? ⟨w.heap.size, 0, none⟩ = some (.int .i64 c.left) := by rw [cell_of_block hc']; rfl
            have hc1' : w1.cell? ⟨w.heap.size, 1, none⟩ = some (.int .u8 c.least) := by rw [cell_of_block hc']; rfl
            have hc2' : w1.cell? ⟨w.heap.size, 2, none⟩ = some (.int .u8 c.most) := by rw [cell_of_block hc']; rfl
            go_wp2_with fail
            refine (fault_any _ true c.left c.least c.most _).mono ?_
            rintro e w2 ⟨rfl, hb2⟩
            go_wp2_with fail
            go_ret
            have hb3 := hb.trans (hb1.below (Nat.le_refl _) hw)
            refine ⟨?_, hb3.trans (hb2.mono hb3.size)⟩
            rw [← HK.out]
            rfl
        | some d =>
          have S' : Calls Try.prog 50 #[.pointer (some ⟨w.heap.size, 0, none⟩), .int .u8 s[i].toNat] wr fun e w' => e = .returned (.bool true) ∧ CurAt d w.heap.size w' ∧ But wr.heap.size w.heap.size wr w' :=
            S.mono fun e w' h => by
              unfold Stepped at h
              rw [hst] at h
              exact h
          have HS := Lib.hid S'
          have hokd := stepC_ok hok hst
          have hk2 := hk.out
          rw [HD.out, chk_on _ _ _ _ _ hst] at hk2
          have HK := Lib.hid hk2
          clear S S' hst hk2 hk
          rcases hg with e1 | ⟨e1, e2⟩
          all_goals
            go_wp2_with fail
            refine HS.out.mono ?_
            rintro e w1 ⟨rfl, hc', hb1⟩
            clear hc0 hc1 hc2
            go_wp2_with fail
            go_roundw
            case rel => exact ⟨i + 1, d, by omega, by go_num, hokd, hc', hb.trans (hb1.below (Nat.le_refl _) hw), HK⟩
            case measure => simp [intOf]; omega
    · obtain rfl : i = s.size := by omega
      have hk2 := hk.out
      rw [List.drop_of_length_le (by rw [Array.length_toList]; exact Nat.le_refl _)] at hk2
      have HK := Lib.hid hk2
      clear hk2 hk
      go_wp2_with fail
      refine (fault_any _ false c.left c.least c.most _).mono ?_
      rintro e w2 ⟨rfl, hb2⟩
      go_wp2_with fail
      go_ret
      refine ⟨?_, hb.trans (hb2.mono hw)⟩
      rw [← HK.out]
      rfl

theorem wrongAs_right (l : List UInt8) : (rt l = true ∧ wrongAs (chk l 0 cur0) = .nilIface) ∨ (rt l = false ∧ ∃ v, wrongAs (chk l 0 cur0) = .iface 81 v) := by
  unfold rt wrongAs
  cases h1 : (chk l 0 cur0).2.1
  · by_cases h2 : 0 < (chk l 0 cur0).2.2.left
    · exact .inr ⟨by simp; omega, by rw [if_neg (by simp), if_pos h2]; exact ⟨_, rfl⟩⟩
    · exact .inl ⟨by simp; omega, by rw [if_neg (by simp), if_neg h2]⟩
  · exact .inr ⟨by simp, by rw [if_pos rfl]; exact ⟨_, rfl⟩⟩

set_option maxRecDepth 100000 in
set_option maxHeartbeats 1000000 in
theorem right_any (s : ByteArray) (hs : s.size ≤ 9223372036854775807) (w : World) :
    Calls Try.prog 20 #[.string s] w fun e w' => e = .returned (.bool (rt s.data.toList)) ∧ Below w.heap.size w w' := by
  have HC := Lib.hid (check_text s hs)
  rcases wrongAs_right s.data.toList with ⟨h1, h2⟩ | ⟨h1, v, h2⟩
  all_goals
    rw [h2] at HC
    rw [h1]
    clear h1 h2
    go_enter Try.func20, Try.ntmps20
    go_wp2_with fail
    refine (HC.out _).mono ?_
    rintro e w1 ⟨rfl, hb⟩
    go_wp2_with fail
    go_ret
    exact ⟨rfl, hb⟩
end Go.Proofs.Ytjbhehkkigopmaa
