/- The contracts of affidavitref03's Right, bytes, Compare: the order of two texts. -/
import Derived.Test.YtjbhehkkigopmaaUtfLex
import Derived.Test.YtjbhehkkigopmaaUtfUnitsR
import Derived.Test.YtjbhehkkigopmaaRoomy3
namespace Go.Proofs.Ytjbhehkkigopmaa
open Go.RowKit Go.Joins Go.Lib

theorem compareBytes_same (u a b : List UInt8) : compareBytes (u ++ a) (u ++ b) = compareBytes a b := by
  induction u with
  | nil => rfl
  | cons x t ih =>
    simp only [List.cons_append, compareBytes, UInt8.lt_irrefl, if_false]
    exact ih
theorem compareBytes_take (a b : List UInt8) (k : Nat) (h : a.take k = b.take k) : compareBytes a b = compareBytes (a.drop k) (b.drop k) := by
  conv => lhs; rw [← List.take_append_drop k a, ← List.take_append_drop k b, h]
  exact compareBytes_same _ _ _
theorem lexN_take (a b : List Nat) (k : Nat) (h : a.take k = b.take k) : lexN a b = lexN (a.drop k) (b.drop k) := by
  conv => lhs; rw [← List.take_append_drop k a, ← List.take_append_drop k b, h]
  exact lexN_same _ _ _
/-- At a place up to which two rows are one. -/
theorem compareBytes_at (a b : List UInt8) (k : Nat) (h : a.take k = b.take k) (ha : k < a.length) (hb : k < b.length) :
    (a[k].toNat < b[k].toNat → compareBytes a b = -1) ∧ (b[k].toNat < a[k].toNat → compareBytes a b = 1) ∧ (a[k].toNat = b[k].toNat → a.take (k + 1) = b.take (k + 1)) := by
  have e := compareBytes_take a b k h
  rw [List.drop_eq_getElem_cons ha, List.drop_eq_getElem_cons hb] at e
  simp only [compareBytes, UInt8.lt_iff_toNat_lt] at e
  refine ⟨fun hl => by rw [e, if_pos hl], fun hl => by rw [e, if_neg (by omega), if_pos hl], fun hl => ?_⟩
  rw [List.take_succ_eq_append_getElem ha, List.take_succ_eq_append_getElem hb, h, UInt8.toNat_inj.1 hl]
theorem compareBytes_end (a b : List UInt8) (k : Nat) (h : a.take k = b.take k) (hk : k ≤ a.length ∧ k ≤ b.length) (he : k = a.length ∨ k = b.length) :
    (a.length < b.length → compareBytes a b = -1) ∧ (b.length < a.length → compareBytes a b = 1) ∧ (a.length = b.length → compareBytes a b = 0) := by
  have e := compareBytes_take a b k h
  rw [e]
  rcases he with rfl | rfl
  · rw [List.drop_of_length_le (Nat.le_refl _)]
    refine ⟨fun hl => ?_, fun hl => by omega, fun hl => ?_⟩
    · rw [List.drop_eq_getElem_cons hl]; rfl
    · rw [hl, List.drop_of_length_le (Nat.le_refl _)]; rfl
  · rw [List.drop_of_length_le (Nat.le_refl b.length)]
    refine ⟨fun hl => by omega, fun hl => ?_, fun hl => ?_⟩
    · rw [List.drop_eq_getElem_cons hl]; rfl
    · rw [← hl, List.drop_of_length_le (Nat.le_refl _)]; rfl
theorem lexN_at (a b : List Nat) (k : Nat) (h : a.take k = b.take k) (ha : k < a.length) (hb : k < b.length) :
    (a[k] < b[k] → lexN a b = -1) ∧ (b[k] < a[k] → lexN a b = 1) ∧ (a[k] = b[k] → a.take (k + 1) = b.take (k + 1)) := by
  have e := lexN_take a b k h
  rw [List.drop_eq_getElem_cons ha, List.drop_eq_getElem_cons hb] at e
  simp only [lexN] at e
  refine ⟨fun hl => by rw [e, if_pos hl], fun hl => by rw [e, if_neg (by omega), if_pos hl], fun hl => ?_⟩
  rw [List.take_succ_eq_append_getElem ha, List.take_succ_eq_append_getElem hb, h, hl]
theorem lexN_end (a b : List Nat) (k : Nat) (h : a.take k = b.take k) (hk : k ≤ a.length ∧ k ≤ b.length) (he : k = a.length ∨ k = b.length) :
    (a.length < b.length → lexN a b = -1) ∧ (b.length < a.length → lexN a b = 1) ∧ (a.length = b.length → lexN a b = 0) := by
  have e := lexN_take a b k h
  rw [e]
  rcases he with rfl | rfl
  · rw [List.drop_of_length_le (Nat.le_refl _)]
    refine ⟨fun hl => ?_, fun hl => by omega, fun hl => ?_⟩
    · rw [List.drop_eq_getElem_cons hl]; rfl
    · rw [hl, List.drop_of_length_le (Nat.le_refl _)]; rfl
  · rw [List.drop_of_length_le (Nat.le_refl b.length)]
    refine ⟨fun hl => by omega, fun hl => ?_, fun hl => ?_⟩
    · rw [List.drop_eq_getElem_cons hl]; rfl
    · rw [← hl, List.drop_of_length_le (Nat.le_refl _)]; rfl

theorem forms_of_rt {l : List UInt8} (hr : rt l = true) : Forms l := by
  suffices H : ∀ d i, l.length - i ≤ d → RightAt l i → Forms (l.drop i) by
    have h := H l.length 0 (by omega) (rightAt_zero l)
    rw [List.drop_zero] at h
    exact h
  intro d
  induction d with
  | zero =>
    intro i hd h
    have h1 := h.1
    rw [List.drop_of_length_le (by omega)]
    exact .nil
  | succ d ih =>
    intro i hd h
    by_cases hi : i < l.length
    · obtain ⟨r, n, hf, h1, _, h3, _, hn⟩ := rightAt_next hr h hi
      have h := ih (i + n) (by omega) hn
      rw [← List.drop_drop] at h
      exact .cons _ r n hf h
    · rw [List.drop_of_length_le (by omega)]
      exact .nil

theorem ret_i64 {a b : Int} (h : a = b) : Ending.returned (.int .i64 a) = .returned (.int .i64 b) := by rw [h]

set_option maxRecDepth 100000 in
theorem refRight_any (s : ByteArray) (hs : s.size ≤ 140737488351232) (w : World) :
    Calls Try.prog 37 #[.string s] w fun e w' => e = .returned (.bool (rt s.data.toList)) ∧ w = w' := by
  have HW := Lib.hid (wrong_any s hs)
  have hr := wrongS_rt s.data.toList
  have hb : ((((wrongS s.data.toList).1 : Nat) : Int) == 0) = rt s.data.toList := by
    rw [Bool.eq_iff_iff, beq_iff_eq, hr]
    omega
  obtain ⟨b, hbb⟩ : ∃ b, rt s.data.toList = b := ⟨_, rfl⟩
  rw [hbb] at hb ⊢
  generalize (wrongS s.data.toList).1 = no at *
  generalize (wrongS s.data.toList).2 = pl at *
  clear hr hbb
  go_enter Try.func37, Try.ntmps37
  go_wp2_with fail
  refine (HW.out _).mono ?_
  rintro e w1 ⟨rfl, rfl⟩
  go_wp2_with fail
  go_ret
  exact ⟨rfl, rfl⟩

set_option maxRecDepth 100000 in
set_option maxHeartbeats 4000000 in
theorem refBytes_any (a b : ByteArray) (ha : a.size ≤ 140737488351232) (w : World) :
    Calls Try.prog 56 #[.string a, .string b] w fun e w' => e = .returned (.int .i64 (compareBytes a.data.toList b.data.toList)) ∧ Below w.heap.size w w' := by
  obtain ⟨r, hr⟩ : ∃ r, compareBytes a.data.toList b.data.toList = r := ⟨_, rfl⟩
  have HAt := Lib.hid (fun k h (hka : k < a.size) (hkb : k < b.size) => compareBytes_at a.data.toList b.data.toList k h (by rw [Array.length_toList]; exact hka) (by rw [Array.length_toList]; exact hkb))
  have HEnd := Lib.hid (fun k h (hk : k ≤ a.size ∧ k ≤ b.size) (he : k = a.size ∨ k = b.size) => compareBytes_end a.data.toList b.data.toList k h (by rw [Array.length_toList, Array.length_toList]; exact hk) (by rw [Array.length_toList, Array.length_toList]; exact he))
  have HLa : Hid (a.data.toList.length = a.size) := Lib.hid Array.length_toList
  have HLb : Hid (b.data.toList.length = b.size) := Lib.hid Array.length_toList
  rw [hr] at HAt HEnd ⊢
  clear hr
  go_enter Try.func56, Try.ntmps56
  go_wp2_with fail
  go_loopw [5] (fun v wr => ∃ k : Nat, k ≤ a.size ∧ k ≤ b.size ∧ v = .int .i64 k ∧ Below w.heap.size w wr ∧ Hid (a.data.toList.take k = b.data.toList.take k)) (fun v _ => a.size - (intOf v).toNat)
  case atStart => exact ⟨0, Nat.zero_le _, Nat.zero_le _, rfl, Below.refl _ _, rfl⟩
  case round =>
    obtain ⟨k, hka, hkb, rfl, hw, ht⟩ := hrel
    by_cases h1 : k < a.size
    · by_cases h2 : k < b.size
      · obtain ⟨r1, r2, r3⟩ := HAt.out k ht.out h1 h2
        have xa := a[k].toNat_lt
        have xb := b[k].toNat_lt
        have R1 := Lib.hid (show a[k].toNat < b[k].toNat → r = -1 from r1)
        have R2 := Lib.hid (show b[k].toNat < a[k].toNat → r = 1 from r2)
        have R3 := Lib.hid (show a[k].toNat = b[k].toNat → _ from r3)
        clear r1 r2 r3
        by_cases c1 : a[k].toNat < b[k].toNat
        · have d1 : decide (a[k].toNat < b[k].toNat) = true := decide_eq_true (by omega)
          have HR := Lib.hid (R1.out c1)
          clear c1
          go_wp2_with fail
          go_quiet (fail)
          go_wp2_with fail
          go_ret
          exact ⟨ret_i64 HR.out.symm, below_drewN _ hw⟩
        · have d1 : decide (a[k].toNat < b[k].toNat) = false := decide_eq_false (by omega)
          by_cases c2 : b[k].toNat < a[k].toNat
          · have d2 : decide (b[k].toNat < a[k].toNat) = true := decide_eq_true (by omega)
            have HR := Lib.hid (R2.out c2)
            clear c1 c2
            go_wp2_with fail
            go_quiet (fail)
            go_wp2_with fail
            go_quiet (fail)
            go_wp2_with fail
            go_ret
            exact ⟨ret_i64 HR.out.symm, below_drewN _ (below_drewN _ hw)⟩
          · have d2 : decide (b[k].toNat < a[k].toNat) = false := decide_eq_false (by omega)
            have HR := Lib.hid (R3.out (by omega))
            clear c1 c2
            go_wp2_with fail
            go_quiet (fail)
            go_wp2_with fail
            go_quiet (fail)
            go_wp2_with fail
            go_roundw
            case rel => exact ⟨k + 1, by omega, by omega, by go_num, below_drewN _ hw, HR⟩
            case measure => simp [intOf]; omega
      · obtain ⟨r1, r2, r3⟩ := HEnd.out k ht.out ⟨hka, hkb⟩ (.inr (by omega))
        have HR := Lib.hid (r2 (by rw [HLa.out, HLb.out]; omega))
        clear r1 r2 r3
        go_wp2_with fail
        go_ret
        exact ⟨ret_i64 HR.out.symm, hw⟩
    · obtain ⟨r1, r2, r3⟩ := HEnd.out k ht.out ⟨hka, hkb⟩ (.inl (by omega))
      rw [HLa.out, HLb.out] at r1 r3
      clear r2
      by_cases h2 : k < b.size
      · have HR := Lib.hid (r1 (by omega))
        clear r1 r3
        go_wp2_with fail
        go_ret
        exact ⟨ret_i64 HR.out.symm, hw⟩
      · have HR := Lib.hid (r3 (by omega))
        clear r1 r3
        go_wp2_with fail
        go_ret
        exact ⟨ret_i64 HR.out.symm, hw⟩

theorem ownsRow_len {w : World} {base e size n : Nat} {v : Value} {xs : List Value} (h : w.ownsRow base e size v n xs) : ∃ p c, v = .slice p n c := by
  rcases ownsRow_forms h with ⟨rfl, rfl⟩ | ⟨g, cap, rfl⟩
  · exact ⟨_, _, rfl⟩
  · exact ⟨_, _, rfl⟩
theorem ownsRow_below {w w' : World} {base e size n B : Nat} {v : Value} {xs : List Value} (h : w.ownsRow base e size v n xs) (hb : Below B w w') (hB : w.heap.size ≤ B) : w'.ownsRow base e size v n xs :=
  h.kept (row := none) ⟨hb.os, hb.tape, hb.output, hb.size, fun k hk _ => hb.block k (by omega)⟩ (by cases v.ownBlock <;> simp)
/-- A cell of a row of units. -/
theorem unit_cell {w : World} {base n c : Nat} {p : Option Addr} {U : List Nat} (h : w.ownsRow base 58 1 (.slice p n c) n (unitCells U)) (k : Nat) (hk : k < U.length) :
    ∃ g, p = some ⟨g, 0, none⟩ ∧ w.cell? ⟨g, k, none⟩ = some (.int .u16 (U[k] : Nat)) := by
  have hl : n = U.length := by have := h.1; simp [unitCells] at this; omega
  obtain ⟨g, cap, he⟩ := ownsRow_form h (by omega)
  simp only [Value.slice.injEq] at he
  obtain ⟨rfl, _, _⟩ := he
  refine ⟨g, rfl, ?_⟩
  have hc := h.cells rfl k (.int .u16 (U[k] : Nat)) (by unfold unitCells; rw [List.getElem?_map, List.getElem?_eq_getElem hk]; rfl)
  rw [Addr.add_lit, Nat.zero_add] at hc
  exact hc

set_option maxRecDepth 100000 in
set_option maxHeartbeats 8000000 in
theorem refCompare_right (a b : ByteArray) (ha : a.size ≤ 2147483647) (hb : b.size ≤ 2147483647) (ra : rt a.data.toList = true) (rb : rt b.data.toList = true) (w : World) :
    Calls Try.prog 35 #[.string a, .string b] w fun e w' => e = .returned (.int .i64 (cmpR a.data.toList b.data.toList)) ∧ Below w.heap.size w w' := by
  have HRa := Lib.hid (refRight_any a (by omega))
  have HRb := Lib.hid (refRight_any b (by omega))
  have HUa := Lib.hid (refUnits_any a (by omega))
  have HUb := Lib.hid (refUnits_any b (by omega))
  unfold UnitsOut at HUa HUb
  have hcmp := cmp_units (forms_of_rt ra) (forms_of_rt rb)
  have hla : (runesOf a.data.toList 0).length ≤ a.size := by have h := runesOf_len a.data.toList 0; have e : a.data.toList.length = a.size := Array.length_toList; omega
  have hlb : (runesOf b.data.toList 0).length ≤ b.size := by have h := runesOf_len b.data.toList 0; have e : b.data.toList.length = b.size := Array.length_toList; omega
  have hua : (unitsS a.data.toList).length ≤ 4294967296 := by
    have h := unitsLen_le (runesOf a.data.toList 0)
    have e : (unitsS a.data.toList).length = unitsLen (runesOf a.data.toList 0) := rfl
    omega
  have hub : (unitsS b.data.toList).length ≤ 4294967296 := by
    have h := unitsLen_le (runesOf b.data.toList 0)
    have e : (unitsS b.data.toList).length = unitsLen (runesOf b.data.toList 0) := rfl
    omega
  rw [ra] at HRa
  rw [rb] at HRb
  rw [hcmp]
  have e1 : unitsL a.data.toList = unitsS a.data.toList := rfl
  have e2 : unitsL b.data.toList = unitsS b.data.toList := rfl
  rw [e1, e2]
  obtain ⟨U, hU⟩ : ∃ U, unitsS a.data.toList = U := ⟨_, rfl⟩
  obtain ⟨V, hV⟩ : ∃ V, unitsS b.data.toList = V := ⟨_, rfl⟩
  rw [hU] at HUa hua ⊢
  rw [hV] at HUb hub ⊢
  obtain ⟨m, hm⟩ : ∃ m, U.length = m := ⟨_, rfl⟩
  obtain ⟨n, hn⟩ : ∃ n, V.length = n := ⟨_, rfl⟩
  rw [hm] at HUa hua
  rw [hn] at HUb hub
  obtain ⟨r, hr⟩ : ∃ r, lexN U V = r := ⟨_, rfl⟩
  have HAt := Lib.hid (lexN_at U V)
  have HEnd := Lib.hid (lexN_end U V)
  rw [hr] at HAt HEnd ⊢
  have HM := Lib.hid hm
  have HN := Lib.hid hn
  clear hcmp hla hlb ra rb e1 e2 hU hV hm hn hr ha hb
  go_enter Try.func35, Try.ntmps35
  go_wp2_with fail
  refine (HRa.out _).mono ?_
  rintro e w1 ⟨rfl, rfl⟩
  go_wp2_with fail
  refine (HRb.out _).mono ?_
  rintro e w1 ⟨rfl, rfl⟩
  go_wp2_with fail
  refine (HUa.out _).mono ?_
  rintro e w1 ⟨v1, rfl, ho1, hb1⟩
  have s1 := hb1.size
  obtain ⟨p1, c1, rfl⟩ := ownsRow_len ho1
  go_wp2_with fail
  refine (HUb.out _).mono ?_
  rintro e w2 ⟨v2, rfl, ho2, hb2⟩
  have gW := hb1.trans (hb2.mono s1)
  have ho1' := ownsRow_below ho1 hb2 (Nat.le_refl _)
  obtain ⟨p2, c2, rfl⟩ := ownsRow_len ho2
  have HO1 := Lib.hid ho1'
  have HO2 := Lib.hid ho2
  clear ho1 ho1' ho2
  go_wp2_with fail
  go_loopw [9] (fun v wr => ∃ k q : Nat, k ≤ m ∧ k ≤ n ∧ v = .int .i64 k ∧ wr = w2.drewN q ∧ Hid (U.take k = V.take k)) (fun v _ => m - (intOf v).toNat)
  case atStart => exact ⟨0, 0, Nat.zero_le _, Nat.zero_le _, rfl, rfl, rfl⟩
  case round =>
    obtain ⟨k, q, hkm, hkn, rfl, rfl, ht⟩ := hrel
    by_cases h1 : k < m
    · by_cases h2 : k < n
      · have k1 : k < U.length := by rw [HM.out]; exact h1
        have k2 : k < V.length := by rw [HN.out]; exact h2
        obtain ⟨r1, r2, r3⟩ := HAt.out k ht.out k1 k2
        obtain ⟨g1, rfl, hc1⟩ := unit_cell HO1.out k k1
        obtain ⟨g2, rfl, hc2⟩ := unit_cell HO2.out k k2
        obtain ⟨x, hx⟩ : ∃ x, U[k] = x := ⟨_, rfl⟩
        obtain ⟨y, hy⟩ : ∃ y, V[k] = y := ⟨_, rfl⟩
        rw [hx, hy] at r1 r2 r3
        rw [hx] at hc1
        rw [hy] at hc2
        have R1 := Lib.hid r1
        have R2 := Lib.hid r2
        have R3 := Lib.hid r3
        clear r1 r2 r3 hx hy
        by_cases c1 : x < y
        · have d1 : decide (x < y) = true := decide_eq_true c1
          have HR := Lib.hid (R1.out c1)
          clear c1
          go_wp2_with fail
          go_quiet (fail)
          go_wp2_with fail
          go_ret
          exact ⟨ret_i64 HR.out.symm, by first | exact below_drewN _ gW | exact below_drewN _ (below_drewN _ gW) | exact below_drewN _ (below_drewN _ (below_drewN _ gW))⟩
        · have d1 : decide (x < y) = false := decide_eq_false c1
          by_cases c2 : y < x
          · have d2 : decide (y < x) = true := decide_eq_true c2
            have HR := Lib.hid (R2.out c2)
            clear c1 c2
            go_wp2_with fail
            go_quiet (fail)
            go_wp2_with fail
            go_quiet (fail)
            go_wp2_with fail
            go_ret
            exact ⟨ret_i64 HR.out.symm, by first | exact below_drewN _ gW | exact below_drewN _ (below_drewN _ gW) | exact below_drewN _ (below_drewN _ (below_drewN _ gW))⟩
          · have d2 : decide (y < x) = false := decide_eq_false c2
            have HR := Lib.hid (R3.out (by omega))
            clear c1 c2
            go_wp2_with fail
            go_quiet (fail)
            go_wp2_with fail
            go_quiet (fail)
            go_wp2_with fail
            go_roundw
            case rel => exact ⟨k + 1, _, by omega, by omega, by go_num, rfl, HR⟩
            case measure => simp [intOf]; omega
      · obtain ⟨r1, r2, r3⟩ := HEnd.out k ht.out ⟨by rw [HM.out]; exact hkm, by rw [HN.out]; exact hkn⟩ (.inr (by rw [HN.out]; omega))
        have HR := Lib.hid (r2 (by rw [HM.out, HN.out]; omega))
        clear r1 r2 r3
        go_wp2_with fail
        go_ret
        exact ⟨ret_i64 HR.out.symm, by first | exact below_drewN _ gW | exact below_drewN _ (below_drewN _ gW) | exact below_drewN _ (below_drewN _ (below_drewN _ gW))⟩
    · obtain ⟨r1, r2, r3⟩ := HEnd.out k ht.out ⟨by rw [HM.out]; exact hkm, by rw [HN.out]; exact hkn⟩ (.inl (by rw [HM.out]; omega))
      rw [HM.out, HN.out] at r1 r3
      clear r2
      by_cases h2 : k < n
      · have HR := Lib.hid (r1 (by omega))
        clear r1 r3
        go_wp2_with fail
        go_ret
        exact ⟨ret_i64 HR.out.symm, by first | exact below_drewN _ gW | exact below_drewN _ (below_drewN _ gW) | exact below_drewN _ (below_drewN _ (below_drewN _ gW))⟩
      · have HR := Lib.hid (r3 (by omega))
        clear r1 r3
        go_wp2_with fail
        go_ret
        exact ⟨ret_i64 HR.out.symm, by first | exact below_drewN _ gW | exact below_drewN _ (below_drewN _ gW) | exact below_drewN _ (below_drewN _ (below_drewN _ gW))⟩

set_option maxRecDepth 100000 in
set_option maxHeartbeats 4000000 in
theorem refCompare_any (a b : ByteArray) (ha : a.size ≤ 2147483647) (hb : b.size ≤ 2147483647) (w : World) :
    Calls Try.prog 35 #[.string a, .string b] w fun e w' => e = .returned (.int .i64 (cmpU rt a.data.toList b.data.toList)) ∧ Below w.heap.size w w' := by
  have HRa := Lib.hid (refRight_any a (by omega))
  have HRb := Lib.hid (refRight_any b (by omega))
  have HBy := Lib.hid (refBytes_any a b (by omega))
  by_cases he : a.data.toList = b.data.toList
  · have e0 : cmpU rt a.data.toList b.data.toList = 0 := by unfold cmpU; rw [if_pos he]
    rw [e0]
    cases h1 : rt a.data.toList
    · have h2 : rt b.data.toList = false := by rw [← he]; exact h1
      have hc : compareBytes a.data.toList b.data.toList = 0 := by rw [he]; exact compareBytes_self _
      rw [h1] at HRa
      rw [h2] at HRb
      rw [hc] at HBy
      clear h1 h2 hc he e0 ha hb
      go_enter Try.func35, Try.ntmps35
      go_wp2_with fail
      refine (HRa.out _).mono ?_
      rintro e w1 ⟨rfl, rfl⟩
      go_wp2_with fail
      refine (HRb.out _).mono ?_
      rintro e w1 ⟨rfl, rfl⟩
      go_wp2_with fail
      refine (HBy.out _).mono ?_
      rintro e w1 ⟨rfl, hb1⟩
      go_wp2_with fail
      go_ret
      exact ⟨rfl, hb1⟩
    · have h2 : rt b.data.toList = true := by rw [← he]; exact h1
      have h := refCompare_right a b ha hb h1 h2 w
      rw [show cmpR a.data.toList b.data.toList = 0 by rw [he]; exact cmpR_self _] at h
      exact h
  · have e0 : cmpU rt a.data.toList b.data.toList = if rt a.data.toList = true then (if rt b.data.toList = true then cmpR a.data.toList b.data.toList else -1) else (if rt b.data.toList = true then 1 else compareBytes a.data.toList b.data.toList) := by
      unfold cmpU; rw [if_neg he]
    rw [e0]
    cases h1 : rt a.data.toList
    · cases h2 : rt b.data.toList
      · rw [h1] at HRa
        rw [h2] at HRb
        rw [if_neg (by decide), if_neg (by decide)]
        clear h1 h2 he e0 ha hb
        go_enter Try.func35, Try.ntmps35
        go_wp2_with fail
        refine (HRa.out _).mono ?_
        rintro e w1 ⟨rfl, rfl⟩
        go_wp2_with fail
        refine (HRb.out _).mono ?_
        rintro e w1 ⟨rfl, rfl⟩
        go_wp2_with fail
        refine (HBy.out _).mono ?_
        rintro e w1 ⟨rfl, hb1⟩
        go_wp2_with fail
        go_ret
        exact ⟨rfl, hb1⟩
      · rw [h1] at HRa
        rw [h2] at HRb
        rw [if_neg (by decide), if_pos rfl]
        clear h1 h2 he e0 ha hb HBy
        go_enter Try.func35, Try.ntmps35
        go_wp2_with fail
        refine (HRa.out _).mono ?_
        rintro e w1 ⟨rfl, rfl⟩
        go_wp2_with fail
        refine (HRb.out _).mono ?_
        rintro e w1 ⟨rfl, rfl⟩
        go_wp2_with fail
        go_ret
        exact ⟨rfl, Below.refl _ _⟩
    · cases h2 : rt b.data.toList
      · rw [h1] at HRa
        rw [h2] at HRb
        rw [if_pos rfl, if_neg (by decide)]
        clear h1 h2 he e0 ha hb HBy
        go_enter Try.func35, Try.ntmps35
        go_wp2_with fail
        refine (HRa.out _).mono ?_
        rintro e w1 ⟨rfl, rfl⟩
        go_wp2_with fail
        refine (HRb.out _).mono ?_
        rintro e w1 ⟨rfl, rfl⟩
        go_wp2_with fail
        go_ret
        exact ⟨rfl, Below.refl _ _⟩
      · rw [if_pos rfl, if_pos rfl]
        exact refCompare_right a b ha hb h1 h2 w
end Go.Proofs.Ytjbhehkkigopmaa
