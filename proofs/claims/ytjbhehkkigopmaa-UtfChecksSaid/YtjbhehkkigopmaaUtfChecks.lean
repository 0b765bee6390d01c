/- The law UtfChecks holds: where utf.Check, Right and Count say that bytes go wrong is where the document's answer says it, each error of its dynamic type; characters and units are counted as it counts them. Of rows of more than 2^31 - 1 bytes the law asks nothing. -/
import Derived.Test.YtjbhehkkigopmaaUtfUnitsR
import Derived.Test.YtjbhehkkigopmaaUtfCheckB
import Derived.Test.YtjbhehkkigopmaaRoomy3
import Derived.Test.YtjbhehkkigopmaaTells3
import Derived.ChangeMaps5
namespace Go.Proofs.Ytjbhehkkigopmaa
open Go.ChangeMaps Go.ChangeShapes Go.WideShapes Go.ChangeAt Go.RowKit Go.Lib Go.Joins

theorem ownsRow_len {w : World} {base e size n : Nat} {v : Value} {xs : List Value} (h : w.ownsRow base e size v n xs) : ∃ p c, v = .slice p n c := by
  rcases ownsRow_forms h with ⟨rfl, rfl⟩ | ⟨g, cap, rfl⟩
  · exact ⟨_, _, rfl⟩
  · exact ⟨_, _, rfl⟩

set_option maxRecDepth 100000 in
set_option maxHeartbeats 8000000 in
theorem utfChecks_walk (a : Option Addr) (cap : Nat) (l : List UInt8) (W : World) (hn : a = none → l = []) (hB : Bytes W.heap.size W.heap.size a l W) (hlen : l.length ≤ 140737488351232) (_ : l.length ≤ cap) :
    Calls Try.prog 3 #[.slice a l.length cap] W fun e w' => e = .returned (.bool true) ∧ Below W.heap.size W w' := by
  have HB := Lib.hid hB
  have HT := Lib.hid (fun w b K hB => bytes_text (w := w) (b := b) (K := K) cap hB hn)
  obtain ⟨n, hln⟩ : ∃ n, l.length = n := ⟨_, rfl⟩
  have HL := Lib.hid hln
  by_cases hbig : 2147483647 < n
  · rw [hln]
    have e1 : decide ((2147483647 : Int) < (n : Int)) = true := decide_eq_true (by omega)
    clear hln hB hn hlen
    go_enter Try.func3, Try.ntmps3
    go_wp2_with fail
    refine (beyond_any _ _).mono ?_
    rintro e w1 ⟨rfl, rfl⟩
    go_wp2_with fail
    go_ret
    exact ⟨rfl, Below.refl _ _⟩
  have e1 : decide ((2147483647 : Int) < (n : Int)) = false := decide_eq_false (by omega)
  have HRoom := Lib.hid (fun w hB => roomy_any a cap l w hB hlen)
  have HLeft := Lib.hid (fun g w b K hB hR => left_yes g a cap l w b K hB hR hlen)
  have HChk := Lib.hid (fun g (w : World) (hR : Roomy g l w) (hg : g < w.heap.size) => check_any (some ⟨g, 0, none⟩) (l.length + 3) l w (roomy_bytes hR hg (by omega)) hlen)
  have hsz : (⟨l.toArray⟩ : ByteArray).size ≤ 4294967296 := by show l.toArray.size ≤ _; simp only [List.size_toArray]; omega
  have HW := Lib.hid (wrong_any ⟨l.toArray⟩ (by omega))
  have HR := Lib.hid (right_any ⟨l.toArray⟩ (by omega))
  have HCw := Lib.hid (fun hr => count_wrong ⟨l.toArray⟩ hsz hr)
  have HCr := Lib.hid (fun hr => count_right ⟨l.toArray⟩ hsz hr)
  have HRun := Lib.hid (refRunes_any ⟨l.toArray⟩ hsz)
  have HUn := Lib.hid (refUnits_any ⟨l.toArray⟩ hsz)
  simp only at HW HR HCw HCr HRun HUn
  obtain ⟨S, hS⟩ : ∃ S : ByteArray, ⟨l.toArray⟩ = S := ⟨_, rfl⟩
  rw [hS] at HT HW HR HCw HCr HRun HUn
  unfold RunesOut at HRun
  unfold UnitsOut at HUn
  rw [hln] at HRoom HLeft HChk HT ⊢
  have hwle := wrongS_le l
  have hwrt := wrongS_rt l
  cases hrt : rt l
  · obtain ⟨hwi, hw0⟩ := wrongAs_iface l hrt
    have HCw2 := Lib.hid (HCw.out hrt)
    rw [hwi] at HChk
    rw [hrt] at HR
    have d0 : (((wrongS l).1 : Int) == 0) = false := by rw [beq_eq_false_iff_ne]; omega
    have d1 : (((wrongS l).1 : Int) != 0) = true := by rw [bne_iff_ne]; omega
    generalize (wrongS l).1 = no at *
    generalize (wrongS l).2 = pl at *
    have HTells := Lib.hid (fun w => tells_spot (no : Int) (pl : Int) (by omega) w)
    clear hS hln hB hn hlen hbig hrt hwi hsz hwrt hw0 HCw HCr
    go_enter Try.func3, Try.ntmps3
    go_wp2_with fail
    refine (beyond_any _ _).mono ?_
    rintro e w1 ⟨rfl, rfl⟩
    have t0 := HT.out W _ _ HB.out
    go_wp2_with fail
    refine (HW.out _).mono ?_
    rintro e w1 ⟨rfl, rfl⟩
    go_wp2_with fail
    refine (HRoom.out _ HB.out).mono ?_
    rintro e w1 ⟨rfl, hR, hb1⟩
    have hg1 : W.heap.size < w1.heap.size := (Array.getElem?_eq_some_iff.1 hR).1
    have HRo := Lib.hid hR
    clear hR t0
    go_wp2_with fail
    refine (HChk.out _ _ HRo.out hg1).mono ?_
    rintro e w2 ⟨rfl, hb2⟩
    have g2 := hb1.trans (hb2.mono hb1.size)
    have s2 := hb2.size
    go_wp2_with fail
    refine (HTells.out _).mono ?_
    rintro e w3 ⟨rfl, hb3⟩
    have g3 := g2.trans (hb3.mono g2.size)
    have hR3 : Roomy W.heap.size l w3 := ((hb2.trans (hb3.mono s2)).block _ hg1).trans HRo.out
    have HR3 := Lib.hid hR3
    clear hR3
    go_wp2_with fail
    refine (HLeft.out _ _ _ _ (HB.out.keep g3) HR3.out).mono ?_
    rintro e w4 ⟨rfl, hd⟩
    have g4 := g3.trans hd.below
    have t4 := HT.out w4 _ _ (HB.out.keep g4)
    go_wp2_with fail
    refine (HR.out _).mono ?_
    rintro e w5 ⟨rfl, hb5⟩
    have g5 := g4.trans (hb5.mono g4.size)
    have t5 := HT.out w5 _ _ (HB.out.keep g5)
    go_wp2_with fail
    refine (HCw2.out _).mono ?_
    rintro e w6 ⟨rfl, hb6⟩
    have g6 := g5.trans (hb6.mono g5.size)
    go_wp2_with fail
    refine (spot_yes _ _ _).mono ?_
    rintro e w7 ⟨rfl, hb7⟩
    go_wp2_with fail
    go_ret
    exact ⟨rfl, g6.trans (hb7.mono g6.size)⟩
  · have hw0 : (wrongS l).1 = 0 := hwrt.1 hrt
    have hwi := wrongAs_nil l hrt
    have HCr2 := Lib.hid (HCr.out hrt)
    rw [hwi] at HChk
    rw [hrt] at HR
    rw [hw0] at HW
    generalize (wrongS l).2 = pl at *
    have hRl := runesOf_len l 0
    rw [hln] at hRl
    obtain ⟨m, hm⟩ : ∃ m, (runesOf l 0).length = m := ⟨_, rfl⟩
    have hUl : (unitsS l).length ≤ 2 * m := by rw [← hm]; exact unitsLen_le _
    obtain ⟨u, hu⟩ : ∃ u, (unitsS l).length = u := ⟨_, rfl⟩
    rw [hm] at HCr2 HRun hRl
    rw [hu] at HCr2 HUn hUl
    clear hS hln hB hn hlen hbig hrt hwi hsz hwrt hw0 HCw HCr hm hu
    go_enter Try.func3, Try.ntmps3
    go_wp2_with fail
    refine (beyond_any _ _).mono ?_
    rintro e w1 ⟨rfl, rfl⟩
    have t0 := HT.out W _ _ HB.out
    go_wp2_with fail
    refine (HW.out _).mono ?_
    rintro e w1 ⟨rfl, rfl⟩
    go_wp2_with fail
    refine (HRoom.out _ HB.out).mono ?_
    rintro e w1 ⟨rfl, hR, hb1⟩
    have hg1 : W.heap.size < w1.heap.size := (Array.getElem?_eq_some_iff.1 hR).1
    have HRo := Lib.hid hR
    clear hR t0
    go_wp2_with fail
    refine (HChk.out _ _ HRo.out hg1).mono ?_
    rintro e w2 ⟨rfl, hb2⟩
    have g2 := hb1.trans (hb2.mono hb1.size)
    have s2 := hb2.size
    go_wp2_with fail
    refine (tells_ok _ _).mono ?_
    rintro e w3 ⟨rfl, hb3⟩
    have g3 := g2.trans (hb3.mono g2.size)
    have hR3 : Roomy W.heap.size l w3 := ((hb2.trans (hb3.mono s2)).block _ hg1).trans HRo.out
    have HR3 := Lib.hid hR3
    clear hR3
    go_wp2_with fail
    refine (HLeft.out _ _ _ _ (HB.out.keep g3) HR3.out).mono ?_
    rintro e w4 ⟨rfl, hd⟩
    have g4 := g3.trans hd.below
    have t4 := HT.out w4 _ _ (HB.out.keep g4)
    go_wp2_with fail
    refine (HR.out _).mono ?_
    rintro e w5 ⟨rfl, hb5⟩
    have g5 := g4.trans (hb5.mono g4.size)
    have t5 := HT.out w5 _ _ (HB.out.keep g5)
    go_wp2_with fail
    refine (HCr2.out _).mono ?_
    rintro e w6 ⟨rfl, hb6⟩
    have g6 := g5.trans (hb6.mono g5.size)
    have t6 := HT.out w6 _ _ (HB.out.keep g6)
    go_wp2_with fail
    refine (HRun.out _).mono ?_
    rintro e w7 ⟨v1, v2, rfl, ho1, ho2, hb7⟩
    have g7 := g6.trans (hb7.mono g6.size)
    have t7 := HT.out w7 _ _ (HB.out.keep g7)
    have hv1 := ownsRow_len ho1
    clear ho2 ho1
    obtain ⟨p1, c1, rfl⟩ := hv1
    go_wp2_with fail
    refine (HUn.out _).mono ?_
    rintro e w8 ⟨v3, rfl, ho3, hb8⟩
    have hv3 := ownsRow_len ho3
    clear ho3
    obtain ⟨p3, c3, rfl⟩ := hv3
    go_wp2_with fail
    go_ret
    exact ⟨rfl, g7.trans (hb8.mono g7.size)⟩

theorem own : ownKnob Try.prog.godebug = none := by kernel_rfl

set_option maxRecDepth 100000 in
theorem utfChecks_lifted (os : Os) (started : os.Started) (H : Type) (enc : TypeId × Value → H) :
    ReturnsInHanded {} Try.checked os 3 .any (Rows.utfChecksSpec.pre6 enc Try.prog Try.f3 Rows.utfChecksRow.domain false) (Rows.utfChecksSpec.post enc Try.prog Try.f3 false true false false) := by
  refine returnsInHanded_of_change_sized (C := Try.checked) own started (by kernel_rfl) Try.func3
    (ChangeSpec.witness6 (enc := enc) (C := Try.checked) false ⟨#[], #[.slice none 0 0], []⟩ 8 (by kernel_rfl) (by kernel_rfl) (by kernel_rfl) (by kernel_rfl)) ?_
  intro W base args ds gs before hval0 hW _ hsz0 _
  have hsz : (DataW.weightsEach Try.prog (Try.f3.params.toList ++ Rows.utfChecksSpec.plain.varTypes Try.prog) (ds ++ gs)).all (· ≤ reachBytes) = true := hsz0
  clear hsz0
  have hval : ∀ (j : Nat) t v, Try.f3.params[j]? = some t → args[j]? = some v → Value.okWide Try.prog W .any base t v := hval0
  have hW' := hW
  obtain ⟨p, q, hA0, hV, rfl, hfz, hnd⟩ := hW
  have hA : DataW.TrodAll enc Try.prog W 0 (fun _ => true) true Try.f3.params.toList args.toList ds p := hA0
  rw [Try.params3] at hA hval hsz
  obtain ⟨v0, vs0, d0, ds0, p0, q0, hargs, rfl, rfl, h0, r0⟩ := trodAll_cons hA
  obtain ⟨rfl, rfl, rfl⟩ := trodAll_nil r0
  obtain rfl : args = #[v0] := by cases args; simp_all
  obtain ⟨rfl, rfl⟩ := trodVars_none hV
  have h0k := h0
  obtain ⟨a0, c0, l0, rfl, m0, n0, B0, s0, k0⟩ := bytes_open (hval 0 22 v0 rfl rfl) h0 W.heap.size (Nat.le_refl _)
  have z0 := bytes_reach hsz (j := 0) rfl rfl s0
  clear hA0 hval0
  simp only [List.append_nil] at hW'
  have hlt0 : ∀ x ∈ p0, x.block < W.heap.size := fun x hx => by have h := hW'.lt x (by simp [hx]); simpa using h
  refine (utfChecks_walk a0 c0 l0 W n0 B0 z0 k0).mono fun e W' ⟨he, hg⟩ => ?_
  subst he
  refine ⟨_, rfl, _, _, _, [], p0, [], hW', ?_, ?_, ?_, hg.frame _, fun h => by cases h⟩
  · exact trodAll_cons_mk (shut_bool Try.underlying4 _) trodAll_mk0
  · have t0 := Below.trod (by kernel_rfl) (by kernel_rfl) (of_decide_eq_true (by kernel_rfl)) h0k hg hlt0
    have ha := (trodAll_cons_mk t0 trodAll_mk0)
    simp only [List.append_nil] at ha
    exact ha
  · rfl

/-- UtfChecks. -/
theorem utfChecks_proved : Rows.UtfChecksSaid :=
  OpenClaim.holds_of_wide 3 Try.f3 rfl rfl rfl rfl rfl rfl rfl ⟨rfl, rfl, rfl, rfl, rfl⟩ rfl rfl rfl rfl rfl (by kernel_rfl) Try.func3 (by kernel_rfl)
    (of_decide_eq_true (by kernel_rfl)) (by unfold Func.isWrapper; first | (rw [if_pos (by decide +kernel)]; kernel_rfl) | (rw [if_neg (by decide +kernel)]; exact ⟨rfl, rfl⟩))
    (fun os started H enc _ => utfChecks_lifted os started H enc)
#print axioms utfChecks_proved
end Go.Proofs.Ytjbhehkkigopmaa
