/- The contracts of affidavitref03 over a text: wide, second, At, Wrong. -/
import Derived.Test.YtjbhehkkigopmaaRows
import Derived.Test.YtjbhehkkigopmaaBut
import Derived.Test.YtjbhehkkigopmaaUtfForm
import Derived.WalkKit
import Derived.Handy
import Derived.Deep.QuietTactic
import Derived.BigQuiet
import Derived.Lib.Hide
import Derived.LoopTactic
namespace Go.Proofs.Ytjbhehkkigopmaa
open Go.RowKit Go.Joins

def wideN (c : Nat) : Nat := if c < 128 then 1 else if 194 ≤ c ∧ c ≤ 223 then 2 else if 224 ≤ c ∧ c ≤ 239 then 3 else if 240 ≤ c ∧ c ≤ 244 then 4 else 0
theorem wide_ret {k : Int} {n : Nat} (h : k = (n : Int)) : Ending.returned (.int .i64 k) = .returned (.int .i64 n) := by rw [h]

set_option maxRecDepth 100000 in
theorem wide_any (c : Nat) (hc : c ≤ 255) (w : World) :
    Calls Try.prog 52 #[.int .u8 c] w fun e w' => e = .returned (.int .i64 (wideN c)) ∧ w = w' := by
  go_enter Try.func52, Try.ntmps52
  go_wp2
  all_goals
    go_ret
    exact ⟨wide_ret (by unfold wideN; (repeat' split) <;> omega), rfl⟩

theorem second_ret {a b : Bool} (h : a = b) : Ending.returned (.bool a) = .returned (.bool b) := by rw [h]

set_option maxRecDepth 100000 in
theorem second_any (c d : Nat) (hc : c ≤ 255) (hd : d ≤ 255) (w : World) :
    Calls Try.prog 53 #[.int .u8 c, .int .u8 d] w fun e w' => e = .returned (.bool (decide (loOf c ≤ d ∧ d ≤ hiOf c))) ∧ w = w' := by
  have ne : ∀ n : Int, ((c : Int) == n) = false → (c : Int) ≠ n := fun n h => by simpa using h
  have eq : ∀ n : Int, ((c : Int) == n) = true → (c : Int) = n := fun n h => by simpa using h
  have NE := Lib.hid ne
  have EQ := Lib.hid eq
  clear ne eq
  obtain ⟨r, hr⟩ : ∃ r, decide (loOf c ≤ d ∧ d ≤ hiOf c) = r := ⟨_, rfl⟩
  rw [hr]
  have HR := Lib.hid hr
  clear hr
  go_enter Try.func53, Try.ntmps53
  go_wp2
  all_goals
    try have x1 := EQ.out 224 (by assumption)
    try have x2 := EQ.out 237 (by assumption)
    try have x3 := EQ.out 240 (by assumption)
    try have x4 := EQ.out 244 (by assumption)
    try have y1 := NE.out 224 (by assumption)
    try have y2 := NE.out 237 (by assumption)
    try have y3 := NE.out 240 (by assumption)
    try have y4 := NE.out 244 (by assumption)
    go_ret
    refine ⟨second_ret ?_, rfl⟩
    rw [← HR.out, Bool.eq_iff_iff]
    simp only [decide_eq_true_eq]
    unfold loOf hiOf
    (repeat' split) <;> (first | omega | (simp; omega) | simp)

/-- What the reference tells of a form. -/
def atVal (p len : Nat) : Form → Value
  | .ok r n => .tuple #[.int .i32 r, .int .i64 n, .int .i64 0, .int .i64 0]
  | .byte k => .tuple #[.int .i32 0, .int .i64 0, .int .i64 30, .int .i64 ((p : Int) + (k : Int))]
  | .cut => .tuple #[.int .i32 0, .int .i64 0, .int .i64 31, .int .i64 len]

/-- What is gathered of a form's bytes behind its first. -/
def accL (a : Nat) (l : List UInt8) : Nat := l.foldl (fun a x => a * 64 + (x.toNat - 128)) a
theorem accL_snoc (a : Nat) (l : List UInt8) (x : UInt8) : accL a (l ++ [x]) = accL a l * 64 + (x.toNat - 128) := by
  unfold accL
  rw [List.foldl_append, List.foldl_cons, List.foldl_nil]

/-- Where the first loop stands: what is to come of a form is what the whole is. -/
def OnWay (n lo hi lead : Nat) (t : List UInt8) (k : Nat) (R : Form) : Prop :=
  formOn (n - k) (if k = 1 then lo else 128) (if k = 1 then hi else 191) (accL lead (t.take (k - 1))) (t.drop (k - 1)) k = R ∧ k - 1 ≤ t.length ∧ ∀ j x, j + 1 < k → t[j]? = some x → 128 ≤ x.toNat

theorem OnWay.cut {n lo hi lead : Nat} {t : List UInt8} {k : Nat} {R : Form} (h : OnWay n lo hi lead t k R) (hk : k < n) (hk1 : 1 ≤ k) (ht : t.length < k) : R = .cut := by
  obtain ⟨h, _⟩ := h
  rw [List.drop_of_length_le (by omega)] at h
  obtain ⟨m, hm⟩ : ∃ m, n - k = m + 1 := ⟨n - k - 1, by omega⟩
  rw [hm] at h
  simp only [formOn] at h
  exact h.symm
theorem OnWay.wrong {n lo hi lead : Nat} {t : List UInt8} {k : Nat} {R : Form} (h : OnWay n lo hi lead t k R) (hk : k < n) (x : UInt8) (hx : t[k - 1]? = some x)
    (hb : if k = 1 then (x.toNat < lo ∨ hi < x.toNat) else (x.toNat < 128 ∨ 191 < x.toNat)) : R = .byte k := by
  obtain ⟨h, _⟩ := h
  obtain ⟨h1, h2⟩ := List.getElem?_eq_some_iff.1 hx
  rw [List.drop_eq_getElem_cons h1, h2] at h
  obtain ⟨m, hm⟩ : ∃ m, n - k = m + 1 := ⟨n - k - 1, by omega⟩
  rw [hm] at h
  simp only [formOn] at h
  rw [if_pos (by split at hb <;> simp_all)] at h
  exact h.symm
theorem OnWay.on {n lo hi lead : Nat} {t : List UInt8} {k : Nat} {R : Form} (h : OnWay n lo hi lead t k R) (hk : k < n) (hk1 : 1 ≤ k) (x : UInt8) (hx : t[k - 1]? = some x) (hlo : 128 ≤ lo)
    (hb : if k = 1 then (lo ≤ x.toNat ∧ x.toNat ≤ hi) else (128 ≤ x.toNat ∧ x.toNat ≤ 191)) : OnWay n lo hi lead t (k + 1) R := by
  obtain ⟨h, _, hj⟩ := h
  obtain ⟨h1, h2⟩ := List.getElem?_eq_some_iff.1 hx
  rw [List.drop_eq_getElem_cons h1, h2] at h
  obtain ⟨m, hm⟩ : ∃ m, n - k = m + 1 := ⟨n - k - 1, by omega⟩
  obtain ⟨q, rfl⟩ : ∃ q, k = q + 1 := ⟨k - 1, by omega⟩
  have hx128 : 128 ≤ x.toNat := by split at hb <;> omega
  rw [hm] at h
  simp only [formOn] at h
  rw [if_neg (by split at hb <;> simp_all)] at h
  refine ⟨?_, by simp only [Nat.add_sub_cancel] at h1 ⊢; omega, fun j y hjk hy => ?_⟩
  · simp only [Nat.add_sub_cancel] at h ⊢
    rw [show n - (q + 1 + 1) = m by omega, if_neg (by omega), if_neg (by omega)]
    simp only [Nat.add_sub_cancel] at h1 h2
    rw [List.take_succ_eq_append_getElem h1]
    rw [h2, accL_snoc]
    exact h
  · by_cases e : j = q
    · subst e
      simp only [Nat.add_sub_cancel] at hx
      rw [hx] at hy
      cases hy
      exact hx128
    · exact hj j y (by omega) hy
theorem OnWay.done {n lo hi lead : Nat} {t : List UInt8} {R : Form} (h : OnWay n lo hi lead t n R) : R = .ok (accL lead (t.take (n - 1))) n ∧ n - 1 ≤ t.length ∧ ∀ j x, j + 1 < n → t[j]? = some x → 128 ≤ x.toNat := by
  obtain ⟨h, hj⟩ := h
  rw [Nat.sub_self] at h
  simp only [formOn] at h
  exact ⟨h.symm, hj⟩

theorem hiOf_le (x : Nat) : hiOf x ≤ 191 := by unfold hiOf; (repeat' split) <;> omega
theorem loOf_le (x : Nat) : 128 ≤ loOf x := by unfold loOf; (repeat' split) <;> omega
theorem wideN_lead {x : Nat} (h1 : 194 ≤ x) (h2 : x ≤ 244) : wideN x = leftOf x + 1 := by unfold wideN leftOf; (repeat' split) <;> omega
theorem wideN_one {x : Nat} (h1 : x < 128) : wideN x = 1 := by unfold wideN; rw [if_pos h1]
theorem wideN_none {x : Nat} (h0 : ¬ x < 128) (h1 : x < 194 ∨ 244 < x) : wideN x = 0 := by unfold wideN; (repeat' split) <;> omega

theorem accL_le (a : Nat) (l : List UInt8) (h : l.length ≤ 3) (ha : a ≤ 127) : accL a l ≤ 2147483647 := by
  unfold accL
  match l, h with
  | [], _ => simp only [List.foldl_nil]; omega
  | [x], _ => simp only [List.foldl_cons, List.foldl_nil]; have := x.toNat_lt; omega
  | [x, y], _ => simp only [List.foldl_cons, List.foldl_nil]; have := x.toNat_lt; have := y.toNat_lt; omega
  | [x, y, z], _ => simp only [List.foldl_cons, List.foldl_nil]; have := x.toNat_lt; have := y.toNat_lt; have := z.toNat_lt; omega

/-- Every first byte: none begins a form, or so many bytes are to come. -/
theorem form_begin (x : UInt8) (t : List UInt8) : (wideN x.toNat = 0 ∧ formAt (x :: t) = .byte 0) ∨
    ∃ n lo hi lead, wideN x.toNat = n ∧ 1 ≤ n ∧ n ≤ 4 ∧ lead ≤ 127 ∧ 128 ≤ lo ∧ (n = 1 ∧ lead = x.toNat ∨ n = 2 ∧ lead + 192 = x.toNat ∨ n = 3 ∧ lead + 224 = x.toNat ∨ n = 4 ∧ lead + 240 = x.toNat) ∧
      (2 ≤ n → lo = loOf x.toNat ∧ hi = hiOf x.toNat) ∧ OnWay n lo hi lead t 1 (formAt (x :: t)) := by
  have hx := x.toNat_lt
  simp only [formAt]
  by_cases h1 : x.toNat < 128
  · rw [if_pos h1]
    refine .inr ⟨1, 128, 0, x.toNat, wideN_one h1, by omega, by omega, by omega, by omega, .inl ⟨rfl, rfl⟩, by omega, ?_, by omega, fun j y h => by omega⟩
    simp only [Nat.sub_self, List.take_zero, formOn]
    rfl
  rw [if_neg h1]
  by_cases h2 : x.toNat < 194 ∨ 244 < x.toNat
  · rw [if_pos h2]
    exact .inl ⟨wideN_none h1 h2, rfl⟩
  rw [if_neg h2]
  have hw := wideN_lead (x := x.toNat) (by omega) (by omega)
  refine .inr ⟨leftOf x.toNat + 1, loOf x.toNat, hiOf x.toNat, leadOf x.toNat, hw, by omega, by have := leftOf_le x.toNat; omega, ?_, loOf_le _, ?_, fun _ => ⟨rfl, rfl⟩, ?_, by omega, fun j y h => by omega⟩
  · unfold leadOf; (repeat' split) <;> omega
  · unfold leadOf leftOf; (repeat' split) <;> omega
  · simp only [Nat.add_sub_cancel, Nat.sub_self, List.take_zero, List.drop_zero, if_true]
    rfl

theorem at_ok {p len n r : Nat} (h : r ≤ 2147483647) : Ending.returned (.tuple #[.int .i32 (wrap32 (r : Int)), .int .i64 n, .int .i64 0, .int .i64 0]) = .returned (atVal p len (.ok r n)) := by
  rw [show wrap32 (r : Int) = r by unfold wrap32; omega]; rfl

set_option maxRecDepth 100000 in
set_option maxHeartbeats 8000000 in
theorem at_any (s : ByteArray) (hs : s.size ≤ 140737488351232) (p : Nat) (hp : p < s.size) (w : World) :
    Calls Try.prog 27 #[.string s, .int .i64 p] w fun e w' => e = .returned (atVal p s.size (formAt (s.data.toList.drop p))) ∧ w = w' := by
  have hl : p < s.data.toList.length := by rw [Array.length_toList]; exact hp
  have hd : s.data.toList.drop p = s[p] :: s.data.toList.drop (p + 1) := List.drop_eq_getElem_cons hl
  rw [hd]
  obtain ⟨t, ht⟩ : ∃ t, s.data.toList.drop (p + 1) = t := ⟨_, rfl⟩
  rw [ht]
  have htl : t.length + p + 1 = s.size := by rw [← ht, List.length_drop, Array.length_toList]; show s.size - (p + 1) + p + 1 = s.size; omega
  have htx : ∀ j (h : p + 1 + j < s.size), t[j]? = some s[p + 1 + j] := fun j h => by
    rw [← ht, List.getElem?_drop, List.getElem?_eq_getElem (by rw [Array.length_toList]; exact h)]
    rfl
  have hx := s[p].toNat_lt
  obtain ⟨x, hxe⟩ : ∃ x, s[p] = x := ⟨_, rfl⟩
  have HT := Lib.hid htx
  rw [hxe] at hx ⊢
  clear hd ht htx
  obtain ⟨R, hR⟩ : ∃ R, formAt (x :: t) = R := ⟨_, rfl⟩
  have hform := form_begin x t
  rw [hR] at hform ⊢
  clear hR
  rcases hform with ⟨hw, rfl⟩ | ⟨n, lo, hi, lead, hw, hn1, hn4, hlead, hlo, hcase, hlohi, hon⟩
  · go_enter Try.func27, Try.ntmps27
    go_wp2_with fail
    refine (wide_any _ (by omega) _).mono ?_
    rintro e w1 ⟨rfl, rfl⟩
    go_wp2_with fail
    go_returns
    exact ⟨by simp [atVal], rfl⟩
  · have H0 : (((n : Nat) : Int) == 0) = false := by rw [beq_eq_false_iff_ne]; omega
    have HW := Lib.hid hw
    have HC := Lib.hid hcase
    have HLH := Lib.hid hlohi
    have HON := Lib.hid hon
    clear hcase hlohi hon
    go_enter Try.func27, Try.ntmps27
    go_wp2_with fail
    refine (wide_any _ (by omega) _).mono ?_
    rintro e w1 ⟨rfl, rfl⟩
    go_wp2_with fail
    go_loop [9] (fun i => ∃ k : Nat, 1 ≤ k ∧ k ≤ n ∧ i = .int .i64 k ∧ Hid (OnWay n lo hi lead t k R)) (fun i => n - (intOf i).toNat)
    case atStart => exact ⟨1, Nat.le_refl _, hn1, rfl, HON⟩
    case round =>
      obtain ⟨k, hk1, hk, rfl, hon⟩ := hrel
      by_cases hlt : k < n
      · by_cases hin : p + k < s.size
        · have htk := HT.out (k - 1) (by omega)
          have e1 : p + 1 + (k - 1) = p + k := by omega
          obtain ⟨c, hc⟩ : ∃ c, s[p + k] = c := ⟨_, rfl⟩
          have hcl := c.toNat_lt
          have htk2 : t[k - 1]? = some c := by rw [htk]; congr 1; rw [← hc]; congr 1
          have HTK := Lib.hid htk2
          clear htk htk2 e1
          by_cases hk0 : k = 1
          · subst hk0
            obtain ⟨l1, l2⟩ := HLH.out (by omega)
            have hlo2 := loOf_le x.toNat
            have hhi2 := hiOf_le x.toNat
            by_cases hsec : loOf x.toNat ≤ c.toNat ∧ c.toNat ≤ hiOf x.toNat
            · have hon2 := hon.out.on hlt hk1 c HTK.out hlo (by rw [if_pos rfl]; omega)
              have hsecond := fun w => second_any x.toNat c.toNat (by omega) (by omega) w
              rw [decide_eq_true hsec] at hsecond
              have HS := Lib.hid hsecond
              have d1 : decide (((c.toNat : Nat) : Int) < 128) = false := decide_eq_false (by omega)
              have d2 : decide ((191 : Int) < ((c.toNat : Nat) : Int)) = false := decide_eq_false (by omega)
              have HON2 := Lib.hid hon2
              clear hsecond hon2 hon hlo2 hhi2 l1 l2 hsec
              go_wp2_with fail
              refine (HS.out _).mono ?_
              rintro e w1 ⟨rfl, rfl⟩
              go_wp2_with fail
              go_round
              case rel => exact ⟨2, by omega, by omega, rfl, HON2⟩
              case measure => simp [intOf]; omega
            · have hR := hon.out.wrong hlt c HTK.out (by rw [if_pos rfl]; omega)
              have hsecond := fun w => second_any x.toNat c.toNat (by omega) (by omega) w
              rw [decide_eq_false hsec] at hsecond
              have HS := Lib.hid hsecond
              clear hsecond hon hlo2 hhi2 l1 l2 hsec
              have HRR := Lib.hid hR
              clear hR
              go_wp2_with fail
              refine (HS.out _).mono ?_
              rintro e w1 ⟨rfl, rfl⟩
              go_wp2_with fail
              go_returns
              exact ⟨by rw [HRR.out]; rfl, rfl⟩
          · have d0 : (((k : Nat) : Int) == 1) = false := by rw [beq_eq_false_iff_ne]; omega
            by_cases hc1 : c.toNat < 128
            · have hR := hon.out.wrong hlt c HTK.out (by rw [if_neg hk0]; omega)
              have d1 : decide (((c.toNat : Nat) : Int) < 128) = true := decide_eq_true (by omega)
              have HRR := Lib.hid hR
              clear hR hon hk0
              go_wp2_with fail
              go_returns
              exact ⟨by rw [HRR.out]; rfl, rfl⟩
            · have d1 : decide (((c.toNat : Nat) : Int) < 128) = false := decide_eq_false (by omega)
              by_cases hc2 : 191 < c.toNat
              · have hR := hon.out.wrong hlt c HTK.out (by rw [if_neg hk0]; omega)
                have d2 : decide ((191 : Int) < ((c.toNat : Nat) : Int)) = true := decide_eq_true (by omega)
                have HRR := Lib.hid hR
                clear hR hon hk0
                go_wp2_with fail
                go_returns
                exact ⟨by rw [HRR.out]; rfl, rfl⟩
              · have hon2 := hon.out.on hlt hk1 c HTK.out hlo (by rw [if_neg hk0]; omega)
                have d2 : decide ((191 : Int) < ((c.toNat : Nat) : Int)) = false := decide_eq_false (by omega)
                have HON2 := Lib.hid hon2
                clear hon2 hon hk0
                go_wp2_with fail
                go_round
                case rel => exact ⟨k + 1, by omega, by omega, by go_num, HON2⟩
                case measure => simp [intOf]; omega
        · have HRR := Lib.hid (hon.out.cut hlt hk1 (by omega))
          go_wp2_with fail
          go_returns
          exact ⟨by rw [HRR.out]; rfl, rfl⟩
      · obtain rfl : k = n := by omega
        obtain ⟨hR, htl2, hbytes⟩ := hon.out.done
        have HRR := Lib.hid hR
        have HBY := Lib.hid hbytes
        clear hR hbytes hon
        have d2 : ∃ b2 : Bool, (((k : Nat) : Int) == 2) = b2 ∧ (b2 = true ↔ k = 2) := ⟨_, rfl, by simp; omega⟩
        have d3 : ∃ b2 : Bool, (((k : Nat) : Int) == 3) = b2 ∧ (b2 = true ↔ k = 3) := ⟨_, rfl, by simp; omega⟩
        have d4 : ∃ b2 : Bool, (((k : Nat) : Int) == 4) = b2 ∧ (b2 = true ↔ k = 4) := ⟨_, rfl, by simp; omega⟩
        have hcs := HC.out
        have hk4 : k = 1 ∨ k = 2 ∨ k = 3 ∨ k = 4 := by omega
        rcases hk4 with h | h | h | h
        · obtain ⟨b2, g2, i2⟩ := d2
          obtain ⟨b3, g3, i3⟩ := d3
          obtain ⟨b4, g4, i4⟩ := d4
          have u2 : b2 = decide (k = 2) := by rw [Bool.eq_iff_iff, i2]; simp
          have u3 : b3 = decide (k = 3) := by rw [Bool.eq_iff_iff, i3]; simp
          have u4 : b4 = decide (k = 4) := by rw [Bool.eq_iff_iff, i4]; simp
          subst u2 u3 u4
          subst h
          clear i2 i3 i4
          have hv : ∀ v : Int, v = (lead : Int) → Value.int .i64 v = .int .i64 (accL lead (t.take (1 - 1)) : Nat) := fun v h => by rw [h]; simp [accL]
          have HV := Lib.hid hv
          have HCS := Lib.hid hcs
          clear hv hcs
          go_wp2_with fail
          go_loop [11, 12] (fun v i => ∃ j : Nat, 1 ≤ j ∧ j ≤ 1 ∧ i = .int .i64 j ∧ v = .int .i64 (accL lead (t.take (j - 1)) : Nat)) (fun _ i => 1 - (intOf i).toNat)
          case atStart => exact ⟨1, by omega, by omega, rfl, by have h := HCS.out; exact HV.out _ (by omega)⟩
          case round =>
            obtain ⟨j, hj1, hj, rfl, rfl⟩ := hrel
            by_cases hlt : j < 1
            · exact absurd hlt (by omega)
            · have ej : j = 1 := by omega
              subst ej
              have hacc := accL_le lead (t.take (1 - 1)) (by rw [List.length_take]; omega) hlead
              have HA := Lib.hid (at_ok (p := p) (len := s.size) (n := 1) (r := accL lead (t.take (1 - 1))) hacc)
              clear hacc
              go_wp2_with fail
              go_returns
              exact ⟨by rw [HRR.out]; exact HA.out, rfl⟩
        · obtain ⟨b2, g2, i2⟩ := d2
          obtain ⟨b3, g3, i3⟩ := d3
          obtain ⟨b4, g4, i4⟩ := d4
          have u2 : b2 = decide (k = 2) := by rw [Bool.eq_iff_iff, i2]; simp
          have u3 : b3 = decide (k = 3) := by rw [Bool.eq_iff_iff, i3]; simp
          have u4 : b4 = decide (k = 4) := by rw [Bool.eq_iff_iff, i4]; simp
          subst u2 u3 u4
          subst h
          clear i2 i3 i4
          have hv : ∀ v : Int, v = (lead : Int) → Value.int .i64 v = .int .i64 (accL lead (t.take (1 - 1)) : Nat) := fun v h => by rw [h]; simp [accL]
          have HV := Lib.hid hv
          have HCS := Lib.hid hcs
          clear hv hcs
          go_wp2_with fail
          go_loop [11, 12] (fun v i => ∃ j : Nat, 1 ≤ j ∧ j ≤ 2 ∧ i = .int .i64 j ∧ v = .int .i64 (accL lead (t.take (j - 1)) : Nat)) (fun _ i => 2 - (intOf i).toNat)
          case atStart => exact ⟨1, by omega, by omega, rfl, by have h := HCS.out; exact HV.out _ (by omega)⟩
          case round =>
            obtain ⟨j, hj1, hj, rfl, rfl⟩ := hrel
            by_cases hlt : j < 2
            · have hin : p + j < s.size := by omega
              have htk := HT.out (j - 1) (by omega)
              have e1 : p + 1 + (j - 1) = p + j := by omega
              obtain ⟨c, hc⟩ : ∃ c, s[p + j] = c := ⟨_, rfl⟩
              have hcl := c.toNat_lt
              have htk2 : t[j - 1]? = some c := by rw [htk]; congr 1; rw [← hc]; congr 1
              have hc128 := HBY.out (j - 1) c (by omega) htk2
              have hnext : accL lead (t.take (j + 1 - 1)) = accL lead (t.take (j - 1)) * 64 + (c.toNat - 128) := by
                obtain ⟨hl1, hl2⟩ := List.getElem?_eq_some_iff.1 htk2
                rw [show j + 1 - 1 = (j - 1) + 1 by omega, List.take_succ_eq_append_getElem hl1, hl2, accL_snoc]
              have hacc := accL_le lead (t.take (j - 1)) (by rw [List.length_take]; omega) hlead
              generalize accL lead (t.take (j - 1)) = acc at *
              have HN := Lib.hid hnext
              clear htk htk2 e1 hnext
              go_wp2_with fail
              go_round
              case rel => exact ⟨j + 1, by omega, by omega, by go_num, by rw [HN.out]; first | go_num | (congr 1; omega)⟩
              case measure => simp [intOf]; omega
            · have ej : j = 2 := by omega
              subst ej
              have hacc := accL_le lead (t.take (2 - 1)) (by rw [List.length_take]; omega) hlead
              have HA := Lib.hid (at_ok (p := p) (len := s.size) (n := 2) (r := accL lead (t.take (2 - 1))) hacc)
              clear hacc
              go_wp2_with fail
              go_returns
              exact ⟨by rw [HRR.out]; exact HA.out, rfl⟩
        · obtain ⟨b2, g2, i2⟩ := d2
          obtain ⟨b3, g3, i3⟩ := d3
          obtain ⟨b4, g4, i4⟩ := d4
          have u2 : b2 = decide (k = 2) := by rw [Bool.eq_iff_iff, i2]; simp
          have u3 : b3 = decide (k = 3) := by rw [Bool.eq_iff_iff, i3]; simp
          have u4 : b4 = decide (k = 4) := by rw [Bool.eq_iff_iff, i4]; simp
          subst u2 u3 u4
          subst h
          clear i2 i3 i4
          have hv : ∀ v : Int, v = (lead : Int) → Value.int .i64 v = .int .i64 (accL lead (t.take (1 - 1)) : Nat) := fun v h => by rw [h]; simp [accL]
          have HV := Lib.hid hv
          have HCS := Lib.hid hcs
          clear hv hcs
          go_wp2_with fail
          go_loop [11, 12] (fun v i => ∃ j : Nat, 1 ≤ j ∧ j ≤ 3 ∧ i = .int .i64 j ∧ v = .int .i64 (accL lead (t.take (j - 1)) : Nat)) (fun _ i => 3 - (intOf i).toNat)
          case atStart => exact ⟨1, by omega, by omega, rfl, by have h := HCS.out; exact HV.out _ (by omega)⟩
          case round =>
            obtain ⟨j, hj1, hj, rfl, rfl⟩ := hrel
            by_cases hlt : j < 3
            · have hin : p + j < s.size := by omega
              have htk := HT.out (j - 1) (by omega)
              have e1 : p + 1 + (j - 1) = p + j := by omega
              obtain ⟨c, hc⟩ : ∃ c, s[p + j] = c := ⟨_, rfl⟩
              have hcl := c.toNat_lt
              have htk2 : t[j - 1]? = some c := by rw [htk]; congr 1; rw [← hc]; congr 1
              have hc128 := HBY.out (j - 1) c (by omega) htk2
              have hnext : accL lead (t.take (j + 1 - 1)) = accL lead (t.take (j - 1)) * 64 + (c.toNat - 128) := by
                obtain ⟨hl1, hl2⟩ := List.getElem?_eq_some_iff.1 htk2
                rw [show j + 1 - 1 = (j - 1) + 1 by omega, List.take_succ_eq_append_getElem hl1, hl2, accL_snoc]
              have hacc := accL_le lead (t.take (j - 1)) (by rw [List.length_take]; omega) hlead
              generalize accL lead (t.take (j - 1)) = acc at *
              have HN := Lib.hid hnext
              clear htk htk2 e1 hnext
              go_wp2_with fail
              go_round
              case rel => exact ⟨j + 1, by omega, by omega, by go_num, by rw [HN.out]; first | go_num | (congr 1; omega)⟩
              case measure => simp [intOf]; omega
            · have ej : j = 3 := by omega
              subst ej
              have hacc := accL_le lead (t.take (3 - 1)) (by rw [List.length_take]; omega) hlead
              have HA := Lib.hid (at_ok (p := p) (len := s.size) (n := 3) (r := accL lead (t.take (3 - 1))) hacc)
              clear hacc
              go_wp2_with fail
              go_returns
              exact ⟨by rw [HRR.out]; exact HA.out, rfl⟩
        · obtain ⟨b2, g2, i2⟩ := d2
          obtain ⟨b3, g3, i3⟩ := d3
          obtain ⟨b4, g4, i4⟩ := d4
          have u2 : b2 = decide (k = 2) := by rw [Bool.eq_iff_iff, i2]; simp
          have u3 : b3 = decide (k = 3) := by rw [Bool.eq_iff_iff, i3]; simp
          have u4 : b4 = decide (k = 4) := by rw [Bool.eq_iff_iff, i4]; simp
          subst u2 u3 u4
          subst h
          clear i2 i3 i4
          have hv : ∀ v : Int, v = (lead : Int) → Value.int .i64 v = .int .i64 (accL lead (t.take (1 - 1)) : Nat) := fun v h => by rw [h]; simp [accL]
          have HV := Lib.hid hv
          have HCS := Lib.hid hcs
          clear hv hcs
          go_wp2_with fail
          go_loop [11, 12] (fun v i => ∃ j : Nat, 1 ≤ j ∧ j ≤ 4 ∧ i = .int .i64 j ∧ v = .int .i64 (accL lead (t.take (j - 1)) : Nat)) (fun _ i => 4 - (intOf i).toNat)
          case atStart => exact ⟨1, by omega, by omega, rfl, by have h := HCS.out; exact HV.out _ (by omega)⟩
          case round =>
            obtain ⟨j, hj1, hj, rfl, rfl⟩ := hrel
            by_cases hlt : j < 4
            · have hin : p + j < s.size := by omega
              have htk := HT.out (j - 1) (by omega)
              have e1 : p + 1 + (j - 1) = p + j := by omega
              obtain ⟨c, hc⟩ : ∃ c, s[p + j] = c := ⟨_, rfl⟩
              have hcl := c.toNat_lt
              have htk2 : t[j - 1]? = some c := by rw [htk]; congr 1; rw [← hc]; congr 1
              have hc128 := HBY.out (j - 1) c (by omega) htk2
              have hnext : accL lead (t.take (j + 1 - 1)) = accL lead (t.take (j - 1)) * 64 + (c.toNat - 128) := by
                obtain ⟨hl1, hl2⟩ := List.getElem?_eq_some_iff.1 htk2
                rw [show j + 1 - 1 = (j - 1) + 1 by omega, List.take_succ_eq_append_getElem hl1, hl2, accL_snoc]
              have hacc := accL_le lead (t.take (j - 1)) (by rw [List.length_take]; omega) hlead
              generalize accL lead (t.take (j - 1)) = acc at *
              have HN := Lib.hid hnext
              clear htk htk2 e1 hnext
              go_wp2_with fail
              go_round
              case rel => exact ⟨j + 1, by omega, by omega, by go_num, by rw [HN.out]; first | go_num | (congr 1; omega)⟩
              case measure => simp [intOf]; omega
            · have ej : j = 4 := by omega
              subst ej
              have hacc := accL_le lead (t.take (4 - 1)) (by rw [List.length_take]; omega) hlead
              have HA := Lib.hid (at_ok (p := p) (len := s.size) (n := 4) (r := accL lead (t.take (4 - 1))) hacc)
              clear hacc
              go_wp2_with fail
              go_returns
              exact ⟨by rw [HRR.out]; exact HA.out, rfl⟩

/-- At ends: where a form is whole, where it is not. -/
theorem at_ok_any (s : ByteArray) (hs : s.size ≤ 140737488351232) (p : Nat) (hp : p < s.size) (r n : Nat) (hf : formAt (s.data.toList.drop p) = .ok r n) (w : World) :
    Calls Try.prog 27 #[.string s, .int .i64 p] w fun e w' => e = .returned (.tuple #[.int .i32 r, .int .i64 n, .int .i64 0, .int .i64 0]) ∧ w = w' := by
  have h := at_any s hs p hp w
  rw [hf] at h
  exact h
theorem at_byte_any (s : ByteArray) (hs : s.size ≤ 140737488351232) (p : Nat) (hp : p < s.size) (k : Nat) (hf : formAt (s.data.toList.drop p) = .byte k) (w : World) :
    Calls Try.prog 27 #[.string s, .int .i64 p] w fun e w' => e = .returned (.tuple #[.int .i32 0, .int .i64 0, .int .i64 30, .int .i64 ((p : Int) + (k : Int))]) ∧ w = w' := by
  have h := at_any s hs p hp w
  rw [hf] at h
  exact h
theorem at_cut_any (s : ByteArray) (hs : s.size ≤ 140737488351232) (p : Nat) (hp : p < s.size) (hf : formAt (s.data.toList.drop p) = .cut) (w : World) :
    Calls Try.prog 27 #[.string s, .int .i64 p] w fun e w' => e = .returned (.tuple #[.int .i32 0, .int .i64 0, .int .i64 31, .int .i64 s.size]) ∧ w = w' := by
  have h := at_any s hs p hp w
  rw [hf] at h
  exact h

theorem wrongS_of (l : List UInt8) (i : Nat) (c : Cur) (h : chk l 0 cur0 = chk (l.drop i) i c) (hc : c.left = 0) (hi : i ≤ l.length) :
    (i = l.length → wrongS l = (0, 0)) ∧ (i < l.length → ∀ f, formAt (l.drop i) = f → match f with
      | .ok _ n => 0 < n ∧ n ≤ 4 ∧ i + n ≤ l.length ∧ ∃ d : Cur, d.left = 0 ∧ chk l 0 cur0 = chk (l.drop (i + n)) (i + n) d
      | .byte k => wrongS l = (30, i + k) ∧ i + k < l.length
      | .cut => wrongS l = (31, l.length) ∧ l.length < i + 4) := by
  refine ⟨fun hl => ?_, fun hl f hf => ?_⟩
  · subst hl
    rw [List.drop_of_length_le (Nat.le_refl _)] at h
    unfold wrongS
    rw [h]
    simp [chk, hc]
  · have hs := formAt_says c hc (l.drop i) i (by intro e; have := congrArg List.length e; simp at this; omega)
    rw [hf] at hs
    cases f with
    | ok r n =>
      obtain ⟨h1, h2, h3, d, h4, h5⟩ := hs
      rw [List.length_drop] at h3
      refine ⟨h1, h2, by omega, d, h4, ?_⟩
      rw [h, h5, List.drop_drop]
    | byte k =>
      obtain ⟨h1, _, d, h2⟩ := hs
      rw [List.length_drop] at h1
      refine ⟨?_, by omega⟩
      unfold wrongS
      rw [h, h2]
      rfl
    | cut =>
      obtain ⟨h1, d, h2, h3⟩ := hs
      rw [List.length_drop] at h1 h3
      refine ⟨?_, by omega⟩
      unfold wrongS
      rw [h, h3, show i + (l.length - i) = l.length by omega]
      simp [h2]

set_option maxRecDepth 100000 in
set_option maxHeartbeats 8000000 in
theorem wrong_any (s : ByteArray) (hs : s.size ≤ 140737488351232) (w : World) :
    Calls Try.prog 15 #[.string s] w fun e w' => e = .returned (.tuple #[.int .i64 (wrongS s.data.toList).1, .int .i64 (wrongS s.data.toList).2]) ∧ w = w' := by
  have hlen : s.data.toList.length = s.size := Array.length_toList
  obtain ⟨l, hl⟩ : ∃ l, s.data.toList = l := ⟨_, rfl⟩
  have HO := Lib.hid (fun (p r n : Nat) (hp : p < s.size) (hf : formAt (l.drop p) = .ok r n) w => at_ok_any s hs p hp r n (by rw [hl]; exact hf) w)
  have HB := Lib.hid (fun (p k : Nat) (hp : p < s.size) (hf : formAt (l.drop p) = .byte k) w => at_byte_any s hs p hp k (by rw [hl]; exact hf) w)
  have HC := Lib.hid (fun (p : Nat) (hp : p < s.size) (hf : formAt (l.drop p) = .cut) w => at_cut_any s hs p hp (by rw [hl]; exact hf) w)
  rw [hl] at hlen ⊢
  have HL := Lib.hid hlen
  obtain ⟨r, hr⟩ : ∃ r, wrongS l = r := ⟨_, rfl⟩
  rw [hr]
  have HR := Lib.hid hr
  clear hl hlen hr
  go_enter Try.func15, Try.ntmps15
  go_wp2_with fail
  go_loop [4] (fun v => ∃ (i : Nat) (c : Cur), i ≤ s.size ∧ v = .int .i64 i ∧ c.left = 0 ∧ Hid (chk l 0 cur0 = chk (l.drop i) i c)) (fun v => s.size - (intOf v).toNat)
  case atStart => exact ⟨0, cur0, Nat.zero_le _, rfl, rfl, rfl⟩
  case round =>
    obtain ⟨i, c, hi, rfl, hc, hk⟩ := hrel
    have hof := wrongS_of l i c hk.out hc (by rw [HL.out]; exact hi)
    rw [HR.out, HL.out] at hof
    clear hk hc
    by_cases hlt : i < s.size
    · have hof2 := hof.2 hlt
      clear hof
      cases hf : formAt (l.drop i) with
      | ok q n =>
        obtain ⟨h1, h2, h3, d, h4, h5⟩ := hof2 _ hf
        have HA := Lib.hid (HO.out i q n hlt hf)
        have HK := Lib.hid h5
        have H4 := Lib.hid h4
        clear hof2 hf h5 h4
        go_wp2_with fail
        refine (HA.out _).mono ?_
        rintro e w1 ⟨rfl, rfl⟩
        go_wp2_with fail
        go_round
        case rel => exact ⟨i + n, d, by omega, by go_num, H4.out, HK⟩
        case measure => simp [intOf]; omega
      | byte k =>
        obtain ⟨h1, h2⟩ := hof2 _ hf
        have HA := Lib.hid (HB.out i k hlt hf)
        have HK := Lib.hid h1
        clear hof2 hf h1
        go_wp2_with fail
        refine (HA.out _).mono ?_
        rintro e w1 ⟨rfl, rfl⟩
        go_wp2_with fail
        go_returns
        exact ⟨by rw [HK.out]; rfl, rfl⟩
      | cut =>
        obtain ⟨h1, h2⟩ := hof2 _ hf
        have HA := Lib.hid (HC.out i hlt hf)
        have HK := Lib.hid h1
        clear hof2 hf h1
        go_wp2_with fail
        refine (HA.out _).mono ?_
        rintro e w1 ⟨rfl, rfl⟩
        go_wp2_with fail
        go_returns
        exact ⟨by rw [HK.out]; rfl, rfl⟩
    · have HK := Lib.hid (hof.1 (by omega))
      clear hof
      go_wp2_with fail
      go_returns
      exact ⟨by rw [HK.out]; rfl, rfl⟩
end Go.Proofs.Ytjbhehkkigopmaa
