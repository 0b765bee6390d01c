/- The law UtfOrder holds: of every three texts (of at most 2^31 - 1 bytes together; of longer ones the law asks nothing), if by utf.Compare the first does not stand behind the second, nor the second behind the third, the first does not stand behind the third. -/
import Derived.Test.YtjbhehkkigopmaaUtfCompare
import Derived.ProofKit
import Derived.OpenShut
import Derived.Carry
import Derived.ChangeMaps5
namespace Go.Proofs.Ytjbhehkkigopmaa
open Go.ChangeShapes Go.WideShapes Go.ChangeAt Go.RowKit Go.ChangeMaps

theorem own : ownKnob Try.prog.godebug = none := by kernel_rfl

theorem beyond_any (n : Int) (w : World) : Calls Try.prog 14 #[.int .i64 n] w fun e w' => e = .returned (.bool (decide (2147483647 < n))) ∧ w = w' := by
  go_enter Try.func14, Try.ntmps14
  go_wp2
  go_ret
  exact ⟨rfl, rfl⟩

theorem known1 : cmpU rt (ByteArray.mk #[97]).data.toList (ByteArray.mk #[98]).data.toList = -1 := by decide +kernel
theorem known2 : cmpU rt (ByteArray.mk #[98]).data.toList (ByteArray.mk #[97]).data.toList = 1 := by decide +kernel
theorem cmp_known1 (w : World) : Calls Try.prog 36 #[.string ⟨#[97]⟩, .string ⟨#[98]⟩] w fun e w' => e = .returned (.int .i64 (-1)) ∧ Below w.heap.size w w' := by
  have h := compare_any ⟨#[97]⟩ ⟨#[98]⟩ (by decide) (by decide) w
  rw [known1] at h
  exact h
theorem cmp_known2 (w : World) : Calls Try.prog 36 #[.string ⟨#[98]⟩, .string ⟨#[97]⟩] w fun e w' => e = .returned (.int .i64 1) ∧ Below w.heap.size w w' := by
  have h := compare_any ⟨#[98]⟩ ⟨#[97]⟩ (by decide) (by decide) w
  rw [known2] at h
  exact h

set_option maxRecDepth 100000 in
set_option maxHeartbeats 4000000 in
theorem order_walk (a b c : ByteArray) (ha : a.size ≤ 140737488351232) (hb : b.size ≤ 140737488351232) (hc : c.size ≤ 140737488351232) (w : World) :
    Calls Try.prog 9 #[.string a, .string b, .string c] w fun e w' => e = .returned (.bool true) ∧ Below w.heap.size w w' := by
  have ht := cmpU_trans rt a.data.toList b.data.toList c.data.toList
  have C1 := compare_any a b (by omega) (by omega)
  have C2 := compare_any b c (by omega) (by omega)
  have C3 := compare_any a c (by omega) (by omega)
  generalize cmpU rt a.data.toList b.data.toList = u at *
  generalize cmpU rt b.data.toList c.data.toList = v at *
  generalize cmpU rt a.data.toList c.data.toList = t at *
  have H1 := Lib.hid C1
  have H2 := Lib.hid C2
  have H3 := Lib.hid C3
  clear C1 C2 C3
  by_cases hbig : 2147483647 < a.size + b.size + c.size
  · have e1 : decide ((2147483647 : Int) < (a.size : Int) + (b.size : Int) + (c.size : Int)) = true := decide_eq_true (by omega)
    go_enter Try.func9, Try.ntmps9
    go_wp2_with fail
    refine (beyond_any _ _).mono ?_
    rintro e w1 ⟨rfl, rfl⟩
    go_wp2_with fail
    go_ret
    exact ⟨rfl, Below.refl _ _⟩
  · have e1 : decide ((2147483647 : Int) < (a.size : Int) + (b.size : Int) + (c.size : Int)) = false := decide_eq_false (by omega)
    clear hbig
    go_enter Try.func9, Try.ntmps9
    go_wp2_with fail
    refine (beyond_any _ _).mono ?_
    rintro e w1 ⟨rfl, rfl⟩
    go_wp2_with fail
    refine (cmp_known1 _).mono ?_
    rintro e w1 ⟨rfl, b1⟩
    have s1 := b1.size
    go_wp2_with fail
    refine (cmp_known2 _).mono ?_
    rintro e w2 ⟨rfl, b2⟩
    have s2 := b2.size
    go_wp2_with fail
    refine (H1.out _).mono ?_
    rintro e w3 ⟨rfl, b3⟩
    have s3 := b3.size
    have b13 := (b1.trans (b2.mono s1)).trans (b3.mono (by omega))
    have s13 := b13.size
    by_cases hu : u ≤ 0
    · have e2 : decide (u ≤ 0) = true := decide_eq_true hu
      go_wp2_with fail
      refine (H2.out _).mono ?_
      rintro e w4 ⟨rfl, b4⟩
      have b14 := b13.trans (b4.mono (by omega))
      have s14 := b14.size
      by_cases hv : v ≤ 0
      · have e3 : decide (v ≤ 0) = true := decide_eq_true hv
        have e4 : decide (t ≤ 0) = true := decide_eq_true (ht hu hv)
        clear ht
        go_wp2_with fail
        refine (H3.out _).mono ?_
        rintro e w5 ⟨rfl, b5⟩
        go_wp2_with fail
        go_ret
        exact ⟨rfl, b14.trans (b5.mono (by omega))⟩
      · have e3 : decide (v ≤ 0) = false := decide_eq_false hv
        clear ht
        go_wp2_with fail
        go_ret
        exact ⟨rfl, b14⟩
    · have e2 : decide (u ≤ 0) = false := decide_eq_false hu
      clear ht
      go_wp2_with fail
      go_ret
      exact ⟨rfl, b13⟩

set_option maxRecDepth 100000 in
theorem order_lifted (os : Os) (started : os.Started) (H : Type) (enc : TypeId × Value → H) :
    ReturnsInHanded {} Try.checked os 9 .any (Rows.utfOrderSpec.pre6 enc Try.prog Try.f9 Rows.utfOrderRow.domain false) (Rows.utfOrderSpec.post enc Try.prog Try.f9 false true false false) := by
  refine returnsInHanded_of_change_sized (C := Try.checked) own started (by kernel_rfl) Try.func9
    (ChangeSpec.witness6 (enc := enc) (C := Try.checked) false ⟨#[], #[.string ⟨#[]⟩, .string ⟨#[]⟩, .string ⟨#[]⟩], []⟩ 8 (by kernel_rfl) (by kernel_rfl) (by kernel_rfl) (by kernel_rfl)) ?_
  intro W base args ds gs before hval0 hW _ hsz0 _
  have hsz : (DataW.weightsEach Try.prog (Try.f9.params.toList ++ Rows.utfOrderSpec.plain.varTypes Try.prog) (ds ++ gs)).all (· ≤ reachBytes) = true := hsz0
  clear hsz0
  have hval : ∀ (j : Nat) t v, Try.f9.params[j]? = some t → args[j]? = some v → Value.okWide Try.prog W .any base t v := hval0
  have hW' := hW
  obtain ⟨p, q, hA0, hV, rfl, hfz, hnd⟩ := hW
  have hA : DataW.TrodAll enc Try.prog W 0 (fun _ => true) true Try.f9.params.toList args.toList ds p := hA0
  rw [Try.params9] at hA hval hsz
  obtain ⟨v0, vs0, d0, ds0, p0, q0, hargs, rfl, rfl, h0, r0⟩ := trodAll_cons hA
  obtain ⟨v1, vs1, d1, ds1, p1, q1, rfl, rfl, rfl, h1, r1⟩ := trodAll_cons r0
  obtain ⟨v2, vs2, d2, ds2, p2, q2, rfl, rfl, rfl, h2, r2⟩ := trodAll_cons r1
  obtain ⟨rfl, rfl, rfl⟩ := trodAll_nil r2
  obtain rfl : args = #[v0, v1, v2] := by cases args; simp_all
  obtain ⟨rfl, rfl⟩ := trodVars_none hV
  obtain ⟨a, rfl, rfl, rfl, ma⟩ := open_string Try.underlying9 (hval 0 9 v0 rfl rfl) h0
  obtain ⟨b, rfl, rfl, rfl, mb⟩ := open_string Try.underlying9 (hval 1 9 v1 rfl rfl) h1
  obtain ⟨c, rfl, rfl, rfl, mc⟩ := open_string Try.underlying9 (hval 2 9 v2 rfl rfl) h2
  have za := sized_string hsz (j := 0) rfl rfl
  have zb := sized_string hsz (j := 1) rfl rfl
  have zc := sized_string hsz (j := 2) rfl rfl
  simp only [Array.length_toList, reachBytes] at za zb zc
  clear hA0 hval0
  simp only [List.append_nil] at hW'
  refine (order_walk a b c za zb zc W).mono fun e W' ⟨he, hg⟩ => ?_
  subst he
  refine ⟨_, rfl, _, _, _, [], [], [], hW', ?_, ?_, ?_, hg.frame _, fun h => by cases h⟩
  · exact trodAll_cons_mk (shut_bool Try.underlying4 _) trodAll_mk0
  · exact trodAll_cons_mk (shut_string Try.underlying9 ma) (trodAll_cons_mk (shut_string Try.underlying9 mb) (trodAll_cons_mk (shut_string Try.underlying9 mc) trodAll_mk0))
  · rfl

/-- UtfOrder. -/
theorem utfOrder_proved : Rows.UtfOrderSaid :=
  OpenClaim.holds_of_wide 9 Try.f9 rfl rfl rfl rfl rfl rfl rfl ⟨rfl, rfl, rfl, rfl, rfl⟩ rfl rfl rfl rfl rfl (by kernel_rfl) Try.func9 (by kernel_rfl)
    (of_decide_eq_true (by kernel_rfl)) (by unfold Func.isWrapper; first | (rw [if_pos (by decide +kernel)]; kernel_rfl) | (rw [if_neg (by decide +kernel)]; exact ⟨rfl, rfl⟩))
    (fun os started H enc _ => order_lifted os started H enc)
#print axioms utfOrder_proved
end Go.Proofs.Ytjbhehkkigopmaa
