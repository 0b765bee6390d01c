/- The law UtfCompares holds: the order of every two texts that utf.Compare tells is the document's, either way round; a text and itself are one. Of texts of more than 2^31 - 1 bytes together the law asks nothing. -/
import Derived.Test.YtjbhehkkigopmaaUtfRefCmp
import Derived.Test.YtjbhehkkigopmaaUtfCompare
import Derived.Test.YtjbhehkkigopmaaTells3
import Derived.ChangeMaps5
namespace Go.Proofs.Ytjbhehkkigopmaa
open Go.ChangeMaps Go.ChangeShapes Go.WideShapes Go.ChangeAt Go.RowKit Go.Lib Go.Joins

theorem cmpU_self (rt : List UInt8 → Bool) (a : List UInt8) : cmpU rt a a = 0 := by unfold cmpU; rw [if_pos rfl]
theorem cmpU_one (rt : List UInt8 → Bool) (a b : List UInt8) : cmpU rt a b = -1 ∨ cmpU rt a b = 0 ∨ cmpU rt a b = 1 := by
  unfold cmpU
  have h1 := cmpR_one a b
  have h2 := compareBytes_one a b
  (repeat' split) <;> omega

set_option maxRecDepth 100000 in
set_option maxHeartbeats 4000000 in
theorem utfCompares_walk (a b : ByteArray) (W : World) (ha : a.size ≤ 140737488351232) (hb : b.size ≤ 140737488351232) :
    Calls Try.prog 8 #[.string a, .string b] W fun e w' => e = .returned (.bool true) ∧ Below W.heap.size W w' := by
  by_cases hbig : 2147483647 < a.size + b.size
  · have e1 : decide ((2147483647 : Int) < (a.size : Int) + (b.size : Int)) = true := decide_eq_true (by omega)
    go_enter Try.func8, Try.ntmps8
    go_wp2_with fail
    refine (beyond_any _ _).mono ?_
    rintro e w1 ⟨rfl, rfl⟩
    go_wp2_with fail
    go_ret
    exact ⟨rfl, Below.refl _ _⟩
  have e1 : decide ((2147483647 : Int) < (a.size : Int) + (b.size : Int)) = false := decide_eq_false (by omega)
  have C0 := refCompare_any a b (by omega) (by omega)
  have C1 := compare_any a b (by omega) (by omega)
  have C2 := compare_any b a (by omega) (by omega)
  have C3 := compare_any a a (by omega) (by omega)
  have C4 := compare_any b b (by omega) (by omega)
  rw [cmpU_self] at C3 C4
  rw [cmpU_anti] at C2
  have hv := cmpU_one rt a.data.toList b.data.toList
  generalize cmpU rt a.data.toList b.data.toList = v at *
  have hv1 : -1 ≤ v := by omega
  have hv2 : v ≤ 1 := by omega
  have H0 := Lib.hid C0
  have H1 := Lib.hid C1
  have H2 := Lib.hid C2
  have H3 := Lib.hid C3
  have H4 := Lib.hid C4
  have q1 : (v == v) = true := by simp
  have q2 : (-v == -v) = true := by simp
  clear C0 C1 C2 C3 C4 hbig hv
  go_enter Try.func8, Try.ntmps8
  go_wp2_with fail
  refine (beyond_any _ _).mono ?_
  rintro e w1 ⟨rfl, rfl⟩
  go_wp2_with fail
  refine (H0.out _).mono ?_
  rintro e w1 ⟨rfl, b1⟩
  have s1 := b1.size
  go_wp2_with fail
  refine (H1.out _).mono ?_
  rintro e w2 ⟨rfl, b2⟩
  have g2 := b1.trans (b2.mono s1)
  go_wp2_with fail
  refine (H2.out _).mono ?_
  rintro e w3 ⟨rfl, b3⟩
  have g3 := g2.trans (b3.mono g2.size)
  go_wp2_with fail
  refine (H3.out _).mono ?_
  rintro e w4 ⟨rfl, b4⟩
  have g4 := g3.trans (b4.mono g3.size)
  go_wp2_with fail
  refine (H4.out _).mono ?_
  rintro e w5 ⟨rfl, b5⟩
  have g5 := g4.trans (b5.mono g4.size)
  go_wp2_with fail
  go_ret
  exact ⟨rfl, g5⟩

theorem own : ownKnob Try.prog.godebug = none := by kernel_rfl

set_option maxRecDepth 100000 in
theorem utfCompares_lifted (os : Os) (started : os.Started) (H : Type) (enc : TypeId × Value → H) :
    ReturnsInHanded {} Try.checked os 8 .any (Rows.utfComparesSpec.pre6 enc Try.prog Try.f8 Rows.utfComparesRow.domain false) (Rows.utfComparesSpec.post enc Try.prog Try.f8 false true false false) := by
  refine returnsInHanded_of_change_sized (C := Try.checked) own started (by kernel_rfl) Try.func8
    (ChangeSpec.witness6 (enc := enc) (C := Try.checked) false ⟨#[], #[.string ⟨#[]⟩, .string ⟨#[]⟩], []⟩ 8 (by kernel_rfl) (by kernel_rfl) (by kernel_rfl) (by kernel_rfl)) ?_
  intro W base args ds gs before hval0 hW _ hsz0 _
  have hsz : (DataW.weightsEach Try.prog (Try.f8.params.toList ++ Rows.utfComparesSpec.plain.varTypes Try.prog) (ds ++ gs)).all (· ≤ reachBytes) = true := hsz0
  clear hsz0
  have hval : ∀ (j : Nat) t v, Try.f8.params[j]? = some t → args[j]? = some v → Value.okWide Try.prog W .any base t v := hval0
  have hW' := hW
  obtain ⟨p, q, hA0, hV, rfl, hfz, hnd⟩ := hW
  have hA : DataW.TrodAll enc Try.prog W 0 (fun _ => true) true Try.f8.params.toList args.toList ds p := hA0
  rw [Try.params8] at hA hval hsz
  obtain ⟨v0, vs0, d0, ds0, p0, q0, hargs, rfl, rfl, h0, r0⟩ := trodAll_cons hA
  obtain ⟨v1, vs1, d1, ds1, p1, q1, rfl, rfl, rfl, h1, r1⟩ := trodAll_cons r0
  obtain ⟨rfl, rfl, rfl⟩ := trodAll_nil r1
  obtain rfl : args = #[v0, v1] := by cases args; simp_all
  obtain ⟨rfl, rfl⟩ := trodVars_none hV
  obtain ⟨s0, rfl, rfl, rfl, m0⟩ := open_string Try.underlying9 (hval 0 9 v0 rfl rfl) h0
  obtain ⟨s1, rfl, rfl, rfl, m1⟩ := open_string Try.underlying9 (hval 1 9 v1 rfl rfl) h1
  have z0 : s0.size ≤ 140737488351232 := by have h := sized_string hsz (j := 0) rfl rfl; simp only [Array.length_toList, reachBytes] at h; exact h
  have z1 : s1.size ≤ 140737488351232 := by have h := sized_string hsz (j := 1) rfl rfl; simp only [Array.length_toList, reachBytes] at h; exact h
  clear hA0 hval0
  simp only [List.append_nil] at hW'
  refine (utfCompares_walk s0 s1 W z0 z1).mono fun e W' ⟨he, hg⟩ => ?_
  subst he
  refine ⟨_, rfl, _, _, _, [], [], [], hW', ?_, ?_, ?_, hg.frame _, fun h => by cases h⟩
  · exact trodAll_cons_mk (shut_bool Try.underlying4 _) trodAll_mk0
  · exact (trodAll_cons_mk (shut_string Try.underlying9 m0) (trodAll_cons_mk (shut_string Try.underlying9 m1) trodAll_mk0))
  · rfl

/-- UtfCompares. -/
theorem utfCompares_proved : Rows.UtfComparesSaid :=
  OpenClaim.holds_of_wide 8 Try.f8 rfl rfl rfl rfl rfl rfl rfl ⟨rfl, rfl, rfl, rfl, rfl⟩ rfl rfl rfl rfl rfl (by kernel_rfl) Try.func8 (by kernel_rfl)
    (of_decide_eq_true (by kernel_rfl)) (by unfold Func.isWrapper; first | (rw [if_pos (by decide +kernel)]; kernel_rfl) | (rw [if_neg (by decide +kernel)]; exact ⟨rfl, rfl⟩))
    (fun os started H enc _ => utfCompares_lifted os started H enc)
#print axioms utfCompares_proved
end Go.Proofs.Ytjbhehkkigopmaa
