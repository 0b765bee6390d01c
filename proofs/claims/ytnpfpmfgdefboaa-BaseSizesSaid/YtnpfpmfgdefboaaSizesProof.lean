/- The law BaseSizes holds: for every two numbers a and n, base.Size and base.Room answer what the reference answers, or the error and nothing, and the call returns true. -/
import Derived.Test.YtnpfpmfgdefboaaSizes
namespace Go.Proofs.Ytnpfpmfgdefboaa
open Go.ChangeShapes Go.WideShapes Go.ChangeAt Go.RowKit Go.Lib

theorem own : ownKnob Try.prog.godebug = none := by kernel_rfl

/-- An error that is a number of its own, asserted to be one. -/
theorem assertErrno (v : Value) (w : World) : (Instr.typeAssert (.iface 24 v) 30 24 true).run Try.prog w = .ok (.tuple #[v, .bool true]) w := by kernel_rfl

theorem errno_arg (w : World) :
    Calls Try.prog 44 #[.iface 24 (.int .i64 2), .int .i64 2] w fun e w' => e = .returned (.bool true) ∧ w' = w := by
  have ha := assertErrno
  go_enter Try.func44, Try.ntmps44
  go_wp2
  go_ret
  exact ⟨rfl, rfl⟩

set_option maxRecDepth 100000 in
/-- What is no alphabet's number at all: the law asks nothing. -/
theorem sizes_out (a n : Int) (h : a < 0 ∨ 255 < a) (w : World) :
    Calls Try.prog 11 #[.int .i64 a, .int .i64 n] w fun e w' => e = .returned (.bool true) ∧ Grown w w' := by
  have e1 : (a != a % 256) = true := by rw [bne_iff_ne]; omega
  clear h
  go_enter Try.func11, Try.ntmps11
  go_wp2
  go_ret
  exact ⟨rfl, Grown.refl _⟩

set_option maxHeartbeats 1000000 in
/-- A number that is no alphabet. -/
theorem sizes_none (a n : Int) (h0 : 0 ≤ a) (h1 : a ≤ 255) (h : a = 0 ∨ 4 ≤ a) (hn : -9223372036854775808 ≤ n) (hn' : n ≤ 9223372036854775807) (w : World) :
    Calls Try.prog 11 #[.int .i64 a, .int .i64 n] w fun e w' => e = .returned (.bool true) ∧ Grown w w' := by
  have C1 := Lib.hid (size_none a n h0 h1 h)
  have C2 := Lib.hid (bits_none a (by omega))
  have C3 := Lib.hid (room_none a n h0 h1 h)
  have C4 := Lib.hid (refRoom_none a n (by omega))
  clear h
  by_cases hb : n ≤ 1125899906842624
  all_goals
    go_enter Try.func11, Try.ntmps11
    go_wp2_with fail
    refine (C1.out _).mono ?_
    rintro e w1 ⟨rfl, g1⟩
    go_wp2_with fail
    refine (C2.out _).mono ?_
    rintro e w' ⟨rfl, rfl⟩
    go_wp2_with fail
    refine (errno_arg _).mono ?_
    rintro e w' ⟨rfl, rfl⟩
    go_wp2_with fail
    refine (C3.out _).mono ?_
    rintro e w' ⟨rfl, g2⟩
    go_wp2_with (go_at_call 47; refine (C4.out _).mono ?_; rintro e w' ⟨rfl, rfl⟩)
    go_ret
    exact ⟨rfl, grown_trans g1 g2⟩

set_option maxHeartbeats 1000000 in
/-- A length that is too small or too great for Size. -/
theorem sizes_less (a n : Int) (h : a = 1 ∨ a = 2 ∨ a = 3) (hn : n < 0) (hn' : -9223372036854775808 ≤ n) (w : World) :
    Calls Try.prog 11 #[.int .i64 a, .int .i64 n] w fun e w' => e = .returned (.bool true) ∧ Grown w w' := by
  have C1 := Lib.hid (size_off a n h (.inl hn))
  have C2 := Lib.hid (bits_some a (by omega) (by omega))
  have C3 := Lib.hid (room_less a n h hn)
  have C4 := Lib.hid (refRoom_less a n (by omega) (by omega) hn)
  have a1 : 1 ≤ a := by omega
  have a2 : a ≤ 3 := by omega
  have e1 : (a + 3 == 0) = false := beq_eq_false_iff_ne.2 (by omega)
  clear h
  go_enter Try.func11, Try.ntmps11
  go_wp2_with fail
  refine (C1.out _).mono ?_
  rintro e w1 ⟨rfl, g1⟩
  go_wp2_with fail
  refine (C2.out _).mono ?_
  rintro e w' ⟨rfl, rfl⟩
  go_wp2_with fail
  refine (errno_arg _).mono ?_
  rintro e w' ⟨rfl, rfl⟩
  go_wp2_with fail
  refine (C3.out _).mono ?_
  rintro e w' ⟨rfl, g2⟩
  go_wp2_with (go_at_call 47; refine (C4.out _).mono ?_; rintro e w' ⟨rfl, rfl⟩)
  go_ret
  exact ⟨rfl, grown_trans g1 g2⟩

theorem room_told (a n : Int) (h : a = 1 ∨ a = 2 ∨ a = 3) (hn : 0 ≤ n) (hn' : n ≤ 1125899906842624) :
    (∃ R : Int, 0 ≤ R ∧ (∀ w : World, Calls Try.prog 46 #[.int .u8 a, .int .i64 n] w fun e w' => e = .returned (.tuple #[.int .i64 R, .bool true]) ∧ Grown w w') ∧
      ∀ w : World, Calls Try.prog 47 #[.int .i64 a, .int .i64 n] w fun e w' => e = .returned (.int .i64 R) ∧ w' = w) ∨
    ((∀ w : World, Calls Try.prog 46 #[.int .u8 a, .int .i64 n] w fun e w' => e = .returned (.tuple #[.int .i64 0, .bool false]) ∧ Grown w w') ∧
      ∀ w : World, Calls Try.prog 47 #[.int .i64 a, .int .i64 n] w fun e w' => e = .returned (.int .i64 (-1)) ∧ w' = w) := by
  have c1 := room_some a n h hn (by omega)
  have c2 := refRoom_some a n (by omega) (by omega) hn hn'
  by_cases hf : fits (a + 3) n = true
  · rw [if_pos hf, hf] at c1
    rw [if_pos hf] at c2
    obtain ⟨b1, b2, b3, b4, b5⟩ := prod_bd (a + 3) n (by omega) (by omega) hn (by omega)
    exact .inl ⟨_, by unfold roomed; omega, c1, c2⟩
  · rw [if_neg hf, Bool.eq_false_iff.2 hf] at c1
    rw [if_neg hf] at c2
    exact .inr ⟨c1, c2⟩

set_option maxHeartbeats 1000000 in
/-- A length of which there may be bytes. -/
theorem sizes_some (a n : Int) (h : a = 1 ∨ a = 2 ∨ a = 3) (hn : 0 ≤ n) (hn' : n ≤ 16777216) (w : World) :
    Calls Try.prog 11 #[.int .i64 a, .int .i64 n] w fun e w' => e = .returned (.bool true) ∧ Grown w w' := by
  have C1 := Lib.hid (size_some a n h hn hn')
  have C2 := Lib.hid (bits_some a (by omega) (by omega))
  have C5 := Lib.hid (refSize_some a n (by omega) (by omega) hn (by omega))
  have a1 : 1 ≤ a := by omega
  have a2 : a ≤ 3 := by omega
  have e1 : (a + 3 == 0) = false := beq_eq_false_iff_ne.2 (by omega)
  have RT := room_told a n h hn (by omega)
  clear h
  generalize (8 * n + (a + 3) - 1) / (a + 3) = S at *
  rcases RT with ⟨R, hR, c3, c4⟩ | ⟨c3, c4⟩
  all_goals
    have C3 := Lib.hid c3
    have C4 := Lib.hid c4
    clear c3 c4
    go_enter Try.func11, Try.ntmps11
    go_wp2_with fail
    refine (C1.out _).mono ?_
    rintro e w1 ⟨rfl, g1⟩
    go_wp2_with fail
    refine (C2.out _).mono ?_
    rintro e w' ⟨rfl, rfl⟩
    go_wp2_with fail
    refine (C5.out _).mono ?_
    rintro e w' ⟨rfl, rfl⟩
    go_wp2_with fail
    refine (C3.out _).mono ?_
    rintro e w' ⟨rfl, g2⟩
    go_wp2_with (go_at_call 47; refine (C4.out _).mono ?_; rintro e w' ⟨rfl, rfl⟩)
    go_ret
    exact ⟨rfl, grown_trans g1 g2⟩

set_option maxHeartbeats 1000000 in
/-- A length that is too great for Size, and not for the reference's Room. -/
theorem sizes_great (a n : Int) (h : a = 1 ∨ a = 2 ∨ a = 3) (hn : 16777216 < n) (hn' : n ≤ 1125899906842624) (w : World) :
    Calls Try.prog 11 #[.int .i64 a, .int .i64 n] w fun e w' => e = .returned (.bool true) ∧ Grown w w' := by
  have C1 := Lib.hid (size_off a n h (.inr hn))
  have C2 := Lib.hid (bits_some a (by omega) (by omega))
  have a1 : 1 ≤ a := by omega
  have a2 : a ≤ 3 := by omega
  have e1 : (a + 3 == 0) = false := beq_eq_false_iff_ne.2 (by omega)
  have RT := room_told a n h (by omega) hn'
  clear h
  rcases RT with ⟨R, hR, c3, c4⟩ | ⟨c3, c4⟩
  all_goals
    have C3 := Lib.hid c3
    have C4 := Lib.hid c4
    clear c3 c4
    go_enter Try.func11, Try.ntmps11
    go_wp2_with fail
    refine (C1.out _).mono ?_
    rintro e w1 ⟨rfl, g1⟩
    go_wp2_with fail
    refine (C2.out _).mono ?_
    rintro e w' ⟨rfl, rfl⟩
    go_wp2_with fail
    refine (errno_arg _).mono ?_
    rintro e w' ⟨rfl, rfl⟩
    go_wp2_with fail
    refine (C3.out _).mono ?_
    rintro e w' ⟨rfl, g2⟩
    go_wp2_with (go_at_call 47; refine (C4.out _).mono ?_; rintro e w' ⟨rfl, rfl⟩)
    go_ret
    exact ⟨rfl, grown_trans g1 g2⟩

set_option maxHeartbeats 1000000 in
/-- A length that is too great for the reference's Room too. -/
theorem sizes_beyond (a n : Int) (h : a = 1 ∨ a = 2 ∨ a = 3) (hn : 1125899906842624 < n) (hn' : n ≤ 9223372036854775807) (w : World) :
    Calls Try.prog 11 #[.int .i64 a, .int .i64 n] w fun e w' => e = .returned (.bool true) ∧ Grown w w' := by
  have C1 := Lib.hid (size_off a n h (.inr (by omega)))
  have C2 := Lib.hid (bits_some a (by omega) (by omega))
  have C3 := Lib.hid (room_some a n h (by omega) hn')
  have a1 : 1 ≤ a := by omega
  have a2 : a ≤ 3 := by omega
  have e1 : (a + 3 == 0) = false := beq_eq_false_iff_ne.2 (by omega)
  clear h
  generalize (if fits (a + 3) n = true then roomed (a + 3) n else 0) = R at *
  generalize fits (a + 3) n = b at *
  go_enter Try.func11, Try.ntmps11
  go_wp2_with fail
  refine (C1.out _).mono ?_
  rintro e w1 ⟨rfl, g1⟩
  go_wp2_with fail
  refine (C2.out _).mono ?_
  rintro e w' ⟨rfl, rfl⟩
  go_wp2_with fail
  refine (errno_arg _).mono ?_
  rintro e w' ⟨rfl, rfl⟩
  go_wp2_with fail
  refine (C3.out _).mono ?_
  rintro e w' ⟨rfl, g2⟩
  go_wp2
  go_ret
  exact ⟨rfl, grown_trans g1 g2⟩

theorem sizes_walk (a n : Int) (hn : -9223372036854775808 ≤ n) (hn' : n ≤ 9223372036854775807) (w : World) :
    Calls Try.prog 11 #[.int .i64 a, .int .i64 n] w fun e w' => e = .returned (.bool true) ∧ Grown w w' := by
  by_cases h : a < 0 ∨ 255 < a
  · exact sizes_out a n h w
  by_cases h1 : a = 0 ∨ 4 ≤ a
  · exact sizes_none a n (by omega) (by omega) h1 hn hn' w
  have h2 : a = 1 ∨ a = 2 ∨ a = 3 := by omega
  by_cases h3 : n < 0
  · exact sizes_less a n h2 h3 hn w
  by_cases h4 : n ≤ 16777216
  · exact sizes_some a n h2 (by omega) h4 w
  by_cases h5 : n ≤ 1125899906842624
  · exact sizes_great a n h2 (by omega) h5 w
  · exact sizes_beyond a n h2 (by omega) hn' w

theorem int_bd {n : Int} (h : (Lit.int .i64 n).wf = true) : -9223372036854775808 ≤ n ∧ n ≤ 9223372036854775807 := by
  simp [Lit.wf, IntKind.min, IntKind.max, IntKind.signed, IntKind.bits] at h
  omega

set_option maxRecDepth 100000 in
theorem sizes_lifted (os : Os) (started : os.Started) (H : Type) (enc : TypeId × Value → H) :
    ReturnsInHanded {} Try.checked os 11 .any (Rows.baseSizesSpec.pre6 enc Try.prog Try.f11 Rows.baseSizesRow.domain false) (Rows.baseSizesSpec.post enc Try.prog Try.f11 false true false false) := by
  refine returnsInHanded_of_change (C := Try.checked) own started (by kernel_rfl) Try.func11
    (ChangeSpec.witness6 (enc := enc) (C := Try.checked) false ⟨#[], #[.int .i64 0, .int .i64 0], []⟩ 8 (by kernel_rfl) (by kernel_rfl) (by kernel_rfl) (by kernel_rfl)) ?_
  intro W base args ds gs before hval0 hW _ _
  have hval : ∀ (j : Nat) t v, Try.f11.params[j]? = some t → args[j]? = some v → Value.okWide Try.prog W .any base t v := hval0
  have hW' := hW
  obtain ⟨p, q, hA0, hV, rfl, hfz, hnd⟩ := hW
  have hA : DataW.TrodAll enc Try.prog W 0 (fun _ => true) true Try.f11.params.toList args.toList ds p := hA0
  rw [Try.params11] at hA hval
  obtain ⟨v0, vs0, d0, ds0, p0, q0, hargs, rfl, rfl, h0, r0⟩ := trodAll_cons hA
  obtain ⟨v1, vs1, d1, ds1, p1, q1, rfl, rfl, rfl, h1, r1⟩ := trodAll_cons r0
  obtain ⟨rfl, rfl, rfl⟩ := trodAll_nil r1
  obtain rfl : args = #[v0, v1] := by cases args; simp_all
  obtain ⟨rfl, rfl⟩ := trodVars_none hV
  obtain ⟨a, rfl, rfl, rfl, w0⟩ := open_int Try.underlying3 (hval 0 3 v0 rfl rfl) h0
  obtain ⟨n, rfl, rfl, rfl, w1⟩ := open_int Try.underlying3 (hval 1 3 v1 rfl rfl) h1
  clear hA0 hval0
  simp only [List.append_nil] at hW'
  refine (sizes_walk a n (int_bd w1).1 (int_bd w1).2 W).mono fun e W' ⟨he, hg⟩ => ?_
  subst he
  exact ⟨_, rfl, post_of_same (pa := []) (pv := []) hW' (fun _ _ _ => (trodAll_cons_mk (shut_bool Try.underlying4 _) trodAll_mk0)) (fun sp _ => (trodAll_cons_mk (shut_int Try.underlying3 w0) (trodAll_cons_mk (shut_int Try.underlying3 w1) trodAll_mk0))) (fun _ _ => rfl) rfl
    (hg.frame _) hg.2.1 (ok_one (by kernel_rfl) rfl (okWide_bool_mk Try.underlying4 _))⟩

/-- BaseSizes. -/
theorem baseSizes_proved : Rows.BaseSizesSaid :=
  OpenClaim.holds_of_wide 11 Try.f11 rfl rfl rfl rfl rfl rfl rfl ⟨rfl, rfl, rfl, rfl, rfl⟩ rfl rfl rfl rfl rfl (by kernel_rfl) Try.func11 (by kernel_rfl)
    (of_decide_eq_true (by kernel_rfl)) (by unfold Func.isWrapper; first | (rw [if_pos (by decide +kernel)]; kernel_rfl) | (rw [if_neg (by decide +kernel)]; exact ⟨rfl, rfl⟩))
    (fun os started H enc _ => sizes_lifted os started H enc)
#print axioms baseSizes_proved
end Go.Proofs.Ytnpfpmfgdefboaa
