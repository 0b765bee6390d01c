/- The contracts of affidavitref03's Scalar and Encode. -/
import Derived.Test.YtjbhehkkigopmaaUtfEnc
import Derived.Test.YtjbhehkkigopmaaRowB
namespace Go.Proofs.Ytjbhehkkigopmaa
open Go.RowKit Go.Lib

set_option maxRecDepth 100000 in
theorem scalar_yes (r : Int) (h : 0 ≤ r ∧ (r < 55296 ∨ (57343 < r ∧ r ≤ 1114111))) (w : World) :
    Calls Try.prog 30 #[.int .i32 r] w fun e w' => e = .returned (.bool true) ∧ w = w' := by
  obtain ⟨h0, h⟩ := h
  have h' : (r < 55296 ∧ r ≤ 1114111) ∨ (¬ r < 55296 ∧ 57343 < r ∧ r ≤ 1114111) := by omega
  clear h
  rcases h' with ⟨h1, h2⟩ | ⟨h1, h2, h3⟩
  all_goals
    go_enter Try.func30, Try.ntmps30
    go_wp2
    go_ret
    exact ⟨rfl, rfl⟩
set_option maxRecDepth 100000 in
theorem scalar_no (r : Int) (h : r < 0 ∨ (55296 ≤ r ∧ r ≤ 57343) ∨ 1114111 < r) (w : World) :
    Calls Try.prog 30 #[.int .i32 r] w fun e w' => e = .returned (.bool false) ∧ w = w' := by
  have h' : r < 0 ∨ (0 ≤ r ∧ 1114111 < r) ∨ (0 ≤ r ∧ r ≤ 1114111 ∧ ¬ r < 55296 ∧ ¬ 57343 < r) := by omega
  clear h
  rcases h' with h1 | ⟨h1, h2⟩ | ⟨h1, h2, h3, h4⟩
  all_goals
    go_enter Try.func30, Try.ntmps30
    go_wp2
    go_ret
    exact ⟨rfl, rfl⟩

theorem cells_one (x : Value) {w : World} (t : TypeId) : ∀ (j : Nat) (u : Value), [x][j]? = some u → (w.alloc (.cells #[x] t)).cell? ((⟨w.heap.size, 0, none⟩ : Addr).add j) = some u := by
  intro j u hj
  match j, hj with
  | 0, hj => simp at hj; subst hj; simp [Addr.add]
theorem cells_two (x y : Value) {w : World} (t : TypeId) : ∀ (j : Nat) (u : Value), [x, y][j]? = some u → (w.alloc (.cells #[x, y] t)).cell? ((⟨w.heap.size, 0, none⟩ : Addr).add j) = some u := by
  intro j u hj
  match j, hj with
  | 0, hj => simp at hj; subst hj; simp [Addr.add]
  | 1, hj => simp at hj; subst hj; simp [Addr.add]
theorem cells_three (x y z : Value) {w : World} (t : TypeId) : ∀ (j : Nat) (u : Value), [x, y, z][j]? = some u → (w.alloc (.cells #[x, y, z] t)).cell? ((⟨w.heap.size, 0, none⟩ : Addr).add j) = some u := by
  intro j u hj
  match j, hj with
  | 0, hj => simp at hj; subst hj; simp [Addr.add]
  | 1, hj => simp at hj; subst hj; simp [Addr.add]
  | 2, hj => simp at hj; subst hj; simp [Addr.add]
theorem cells_four (x y z v : Value) {w : World} (t : TypeId) : ∀ (j : Nat) (u : Value), [x, y, z, v][j]? = some u → (w.alloc (.cells #[x, y, z, v] t)).cell? ((⟨w.heap.size, 0, none⟩ : Addr).add j) = some u := by
  intro j u hj
  match j, hj with
  | 0, hj => simp at hj; subst hj; simp [Addr.add]
  | 1, hj => simp at hj; subst hj; simp [Addr.add]
  | 2, hj => simp at hj; subst hj; simp [Addr.add]
  | 3, hj => simp at hj; subst hj; simp [Addr.add]
theorem one_ints (l : List Int) : ∀ u ∈ l.map (fun x => Value.int .u8 x), u.oneCell' = true := by
  intro u hu
  obtain ⟨x, _, rfl⟩ := List.mem_map.1 hu
  rfl

set_option maxRecDepth 100000 in
set_option maxHeartbeats 4000000 in
theorem refEncode_one (r : Int) (h0 : 0 ≤ r) (h1 : r < 128) (w : World) :
    Calls Try.prog 29 #[.int .i32 r] w fun e w' => e = .returned (.string ⟨(encodeRune r).toArray⟩) ∧ Below w.heap.size w w' := by
  obtain ⟨i0, hi, hz0, hz1, hz2⟩ := info_parts infoByte
  have HE := Lib.hid (byteCells_encodeRune r)
  have HZ : Hid (runeCells r = [.int .u8 (r)]) := Lib.hid (by rw [runeCells, encodeRuneZ_one h0 (by omega)]; rfl)
  have HL : Hid ((encodeRune r).length = 1) := Lib.hid (by rw [encodeRune, encodeRuneZ_one h0 (by omega)]; rfl)
  have HS := Lib.hid (scalar_yes r ⟨by omega, .inl (by omega)⟩)
  go_enter Try.func29, Try.ntmps29
  go_wp2_with fail
  refine (HS.out _).mono ?_
  rintro e w1 ⟨rfl, rfl⟩
  go_wp2_with (at_builtin; refine wpList_append_own _ rfl _ _ 22 rfl w.heap.size 5 i0 (.int .u8 0) 1 1 Try.underlying22 hi hz0 hz1 hz2 rfl (by decide) _ _ _ rfl (World.ownsRow_nil _ _ _ _) ⟨w.heap.size, 0, none⟩ 1 1 [.int .u8 (r)] rfl rfl ?c1 ?c2 ?c3 ?c4 ?c5 ?_)
  case c1 => exact cells_one _ _
  case c2 => exact one_ints [r]
  case c3 => unfold maxLen; omega
  case c4 => omega
  case c5 => simp
  intro v' w2 hown' hgrow _
  have hb2 := (((Below.refl w.heap.size w).alloc (Nat.le_refl _) _).grown hgrow (by simp) (fun k hk => by cases hk))
  have hown2 : w2.ownsRow w.heap.size 5 1 v' 1 (byteCells (encodeRune r)) := by rw [HE.out, HZ.out]; exact hown'
  have hcv := owns_text hown2 HL.out
  clear hgrow hown' hown2
  go_wp2_with fail
  go_ret
  exact ⟨rfl, hb2⟩

set_option maxRecDepth 100000 in
set_option maxHeartbeats 4000000 in
theorem refEncode_two (r : Int) (h0 : 128 ≤ r) (h1 : r < 2048) (w : World) :
    Calls Try.prog 29 #[.int .i32 r] w fun e w' => e = .returned (.string ⟨(encodeRune r).toArray⟩) ∧ Below w.heap.size w w' := by
  obtain ⟨i0, hi, hz0, hz1, hz2⟩ := info_parts infoByte
  have HE := Lib.hid (byteCells_encodeRune r)
  have HZ : Hid (runeCells r = [.int .u8 (192 + r / 64), .int .u8 (128 + r % 64)]) := Lib.hid (by rw [runeCells, encodeRuneZ_two h0 (by omega)]; rfl)
  have HL : Hid ((encodeRune r).length = 2) := Lib.hid (by rw [encodeRune, encodeRuneZ_two h0 (by omega)]; rfl)
  have HS := Lib.hid (scalar_yes r ⟨by omega, .inl (by omega)⟩)
  go_enter Try.func29, Try.ntmps29
  go_wp2_with fail
  refine (HS.out _).mono ?_
  rintro e w1 ⟨rfl, rfl⟩
  go_wp2_with (at_builtin; refine wpList_append_own _ rfl _ _ 22 rfl w.heap.size 5 i0 (.int .u8 0) 1 1 Try.underlying22 hi hz0 hz1 hz2 rfl (by decide) _ _ _ rfl (World.ownsRow_nil _ _ _ _) ⟨w.heap.size, 0, none⟩ 2 2 [.int .u8 (192 + r / 64), .int .u8 (128 + r % 64)] rfl rfl ?c1 ?c2 ?c3 ?c4 ?c5 ?_)
  case c1 => exact cells_two _ _ _
  case c2 => exact one_ints [192 + r / 64, 128 + r % 64]
  case c3 => unfold maxLen; omega
  case c4 => omega
  case c5 => simp
  intro v' w2 hown' hgrow _
  have hb2 := (((Below.refl w.heap.size w).alloc (Nat.le_refl _) _).grown hgrow (by simp) (fun k hk => by cases hk))
  have hown2 : w2.ownsRow w.heap.size 5 1 v' 2 (byteCells (encodeRune r)) := by rw [HE.out, HZ.out]; exact hown'
  have hcv := owns_text hown2 HL.out
  clear hgrow hown' hown2
  go_wp2_with fail
  go_ret
  exact ⟨rfl, hb2⟩

set_option maxRecDepth 100000 in
set_option maxHeartbeats 4000000 in
theorem refEncode_three (r : Int) (h0 : 2048 ≤ r) (h1 : r < 65536) (h2 : r < 55296 ∨ 57343 < r) (w : World) :
    Calls Try.prog 29 #[.int .i32 r] w fun e w' => e = .returned (.string ⟨(encodeRune r).toArray⟩) ∧ Below w.heap.size w w' := by
  obtain ⟨i0, hi, hz0, hz1, hz2⟩ := info_parts infoByte
  have HE := Lib.hid (byteCells_encodeRune r)
  have HZ : Hid (runeCells r = [.int .u8 (224 + r / 4096), .int .u8 (128 + r / 64 % 64), .int .u8 (128 + r % 64)]) := Lib.hid (by rw [runeCells, encodeRuneZ_three (by omega)]; rfl)
  have HL : Hid ((encodeRune r).length = 3) := Lib.hid (by rw [encodeRune, encodeRuneZ_three (by omega)]; rfl)
  have HS := Lib.hid (scalar_yes r ⟨by omega, by omega⟩)
  clear h2
  go_enter Try.func29, Try.ntmps29
  go_wp2_with fail
  refine (HS.out _).mono ?_
  rintro e w1 ⟨rfl, rfl⟩
  go_wp2_with (at_builtin; refine wpList_append_own _ rfl _ _ 22 rfl w.heap.size 5 i0 (.int .u8 0) 1 1 Try.underlying22 hi hz0 hz1 hz2 rfl (by decide) _ _ _ rfl (World.ownsRow_nil _ _ _ _) ⟨w.heap.size, 0, none⟩ 3 3 [.int .u8 (224 + r / 4096), .int .u8 (128 + r / 64 % 64), .int .u8 (128 + r % 64)] rfl rfl ?c1 ?c2 ?c3 ?c4 ?c5 ?_)
  case c1 => exact cells_three _ _ _ _
  case c2 => exact one_ints [224 + r / 4096, 128 + r / 64 % 64, 128 + r % 64]
  case c3 => unfold maxLen; omega
  case c4 => omega
  case c5 => simp
  intro v' w2 hown' hgrow _
  have hb2 := (((Below.refl w.heap.size w).alloc (Nat.le_refl _) _).grown hgrow (by simp) (fun k hk => by cases hk))
  have hown2 : w2.ownsRow w.heap.size 5 1 v' 3 (byteCells (encodeRune r)) := by rw [HE.out, HZ.out]; exact hown'
  have hcv := owns_text hown2 HL.out
  clear hgrow hown' hown2
  go_wp2_with fail
  go_ret
  exact ⟨rfl, hb2⟩

set_option maxRecDepth 100000 in
set_option maxHeartbeats 4000000 in
theorem refEncode_four (r : Int) (h0 : 65536 ≤ r) (h1 : r ≤ 1114111) (w : World) :
    Calls Try.prog 29 #[.int .i32 r] w fun e w' => e = .returned (.string ⟨(encodeRune r).toArray⟩) ∧ Below w.heap.size w w' := by
  obtain ⟨i0, hi, hz0, hz1, hz2⟩ := info_parts infoByte
  have HE := Lib.hid (byteCells_encodeRune r)
  have HZ : Hid (runeCells r = [.int .u8 (240 + r / 262144), .int .u8 (128 + r / 4096 % 64), .int .u8 (128 + r / 64 % 64), .int .u8 (128 + r % 64)]) := Lib.hid (by rw [runeCells, encodeRuneZ_four h0 h1]; rfl)
  have HL : Hid ((encodeRune r).length = 4) := Lib.hid (by rw [encodeRune, encodeRuneZ_four h0 h1]; rfl)
  have HS := Lib.hid (scalar_yes r ⟨by omega, by omega⟩)
  go_enter Try.func29, Try.ntmps29
  go_wp2_with fail
  refine (HS.out _).mono ?_
  rintro e w1 ⟨rfl, rfl⟩
  go_wp2_with (at_builtin; refine wpList_append_own _ rfl _ _ 22 rfl w.heap.size 5 i0 (.int .u8 0) 1 1 Try.underlying22 hi hz0 hz1 hz2 rfl (by decide) _ _ _ rfl (World.ownsRow_nil _ _ _ _) ⟨w.heap.size, 0, none⟩ 4 4 [.int .u8 (240 + r / 262144), .int .u8 (128 + r / 4096 % 64), .int .u8 (128 + r / 64 % 64), .int .u8 (128 + r % 64)] rfl rfl ?c1 ?c2 ?c3 ?c4 ?c5 ?_)
  case c1 => exact cells_four _ _ _ _ _
  case c2 => exact one_ints [240 + r / 262144, 128 + r / 4096 % 64, 128 + r / 64 % 64, 128 + r % 64]
  case c3 => unfold maxLen; omega
  case c4 => omega
  case c5 => simp
  intro v' w2 hown' hgrow _
  have hb2 := (((Below.refl w.heap.size w).alloc (Nat.le_refl _) _).grown hgrow (by simp) (fun k hk => by cases hk))
  have hown2 : w2.ownsRow w.heap.size 5 1 v' 4 (byteCells (encodeRune r)) := by rw [HE.out, HZ.out]; exact hown'
  have hcv := owns_text hown2 HL.out
  clear hgrow hown' hown2
  go_wp2_with fail
  go_ret
  exact ⟨rfl, hb2⟩

set_option maxRecDepth 100000 in
set_option maxHeartbeats 1000000 in
theorem refEncode_no (r : Int) (h : r < 0 ∨ (55296 ≤ r ∧ r ≤ 57343) ∨ 1114111 < r) (w : World) :
    Calls Try.prog 29 #[.int .i32 r] w fun e w' => e = .returned (.string ⟨#[]⟩) ∧ Below w.heap.size w w' := by
  have HS := Lib.hid (scalar_no r h)
  clear h
  go_enter Try.func29, Try.ntmps29
  go_wp2_with fail
  refine (HS.out _).mono ?_
  rintro e w1 ⟨rfl, rfl⟩
  go_wp2_with fail
  go_ret
  exact ⟨rfl, Below.refl _ _⟩

theorem refEncode_yes (r : Int) (h : 0 ≤ r ∧ (r < 55296 ∨ (57343 < r ∧ r ≤ 1114111))) (w : World) :
    Calls Try.prog 29 #[.int .i32 r] w fun e w' => e = .returned (.string ⟨(encodeRune r).toArray⟩) ∧ Below w.heap.size w w' := by
  by_cases h1 : r < 128
  · exact refEncode_one r (by omega) h1 w
  · by_cases h2 : r < 2048
    · exact refEncode_two r (by omega) h2 w
    · by_cases h3 : r < 65536
      · exact refEncode_three r (by omega) h3 (by omega) w
      · exact refEncode_four r (by omega) (by omega) w
end Go.Proofs.Ytjbhehkkigopmaa
