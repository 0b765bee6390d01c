/- The law UtfDecodes holds: what utf.Decode tells of every row of bytes and every place is what the document's answer tells, each error of its dynamic type. Of rows of more than 2^31 - 1 bytes the law asks nothing. -/
import Derived.Test.YtjbhehkkigopmaaUtfDec
import Derived.Test.YtjbhehkkigopmaaUtfRef
import Derived.Test.YtjbhehkkigopmaaRoomy3
import Derived.Test.YtjbhehkkigopmaaSpot3
import Derived.ChangeMaps5
namespace Go.Proofs.Ytjbhehkkigopmaa
open Go.ChangeMaps Go.ChangeShapes Go.WideShapes Go.ChangeAt Go.RowKit Go.Lib

theorem beyond_any (n : Int) (w : World) : Calls Try.prog 14 #[.int .i64 n] w fun e w' => e = .returned (.bool (decide (2147483647 < n))) ∧ w = w' := by
  go_enter Try.func14, Try.ntmps14
  go_wp2
  go_ret
  exact ⟨rfl, rfl⟩

set_option maxRecDepth 100000 in
theorem decode_arg (v : Option Addr) (len cap : Nat) (p : Int) (h : p < 0 ∨ (len : Int) ≤ p) (w : World) :
    Calls Try.prog 25 #[.slice v len cap, .int .i64 p] w fun e w' => e = .returned (.tuple #[.int .i32 0, .int .i64 0, .iface 24 (.int .i64 2)]) ∧ w = w' := by
  have h2 : p < 0 ∨ (¬ p < 0 ∧ (len : Int) ≤ p) := by omega
  clear h
  rcases h2 with h | ⟨h, h2⟩
  all_goals
    go_enter Try.func25, Try.ntmps25
    go_wp2
    go_returns
    exact ⟨rfl, rfl⟩

set_option maxRecDepth 100000 in
set_option maxHeartbeats 8000000 in
theorem utfDecodes_walk (a : Option Addr) (cap : Nat) (l : List UInt8) (p : Int) (W : World) (hn : a = none → l = []) (hB : Bytes W.heap.size W.heap.size a l W) (hlen : l.length ≤ 140737488351232) (_ : l.length ≤ cap) (_ : (Lit.int .i64 p).wf = true) :
    Calls Try.prog 4 #[.slice a l.length cap, .int .i64 p] W fun e w' => e = .returned (.bool true) ∧ Below W.heap.size W w' := by
  have HB := Lib.hid hB
  have HNN := Lib.hid hn
  obtain ⟨n, hln⟩ : ∃ n, l.length = n := ⟨_, rfl⟩
  have HL := Lib.hid hln
  by_cases hbig : 2147483647 < n
  · rw [hln]
    have e1 : decide ((2147483647 : Int) < (n : Int)) = true := decide_eq_true (by omega)
    clear hln hB hn hlen
    go_enter Try.func4, Try.ntmps4
    go_wp2_with fail
    refine (beyond_any _ _).mono ?_
    rintro e w1 ⟨rfl, rfl⟩
    go_wp2_with fail
    go_ret
    exact ⟨rfl, Below.refl _ _⟩
  have e1 : decide ((2147483647 : Int) < (n : Int)) = false := decide_eq_false (by omega)
  have HRoom := Lib.hid (fun w hB => roomy_any a cap l w hB hlen)
  have HLeft := Lib.hid (fun g w b K hB hR => left_yes g a cap l w b K hB hR hlen)
  rw [hln] at hlen HRoom HLeft ⊢
  clear hln hB hn hbig
  by_cases harg : p < 0 ∨ (n : Int) ≤ p
  · have HD := Lib.hid (fun v c w => decode_arg v n c p harg w)
    go_enter Try.func4, Try.ntmps4
    go_wp2_with fail
    refine (beyond_any _ _).mono ?_
    rintro e w1 ⟨rfl, rfl⟩
    go_wp2_with fail
    refine (HRoom.out _ HB.out).mono ?_
    rintro e w1 ⟨rfl, hR, hb1⟩
    have HR := Lib.hid hR
    clear hR
    go_wp2_with fail
    refine (HD.out _ _ _).mono ?_
    rintro e w2 ⟨rfl, rfl⟩
    go_wp2_with fail
    refine (HLeft.out _ _ _ _ (HB.out.keep hb1) HR.out).mono ?_
    rintro e w3 ⟨rfl, hd⟩
    have hb3 := hb1.trans hd.below
    have harg2 : p < 0 ∨ (¬ p < 0 ∧ (n : Int) ≤ p) := by omega
    clear harg
    rcases harg2 with h | ⟨h, h2⟩
    all_goals
      go_wp2_with fail
      refine (errno_yes _ _).mono ?_
      rintro e w4 ⟨rfl, rfl⟩
      go_wp2_with fail
      go_ret
      exact ⟨rfl, hb3⟩
  · obtain ⟨q, rfl⟩ : ∃ q : Nat, p = (q : Int) := ⟨p.toNat, by omega⟩
    have hq : q < n := by omega
    have hne : l ≠ [] := by intro e; have := HL.out; rw [e] at this; simp at this; omega
    have HT := Lib.hid (fun w b K hB => bytes_text (w := w) (b := b) (K := K) cap hB HNN.out)
    have HDec := Lib.hid (fun g w (hR : Roomy g l w) (hg : g < w.heap.size) => by
      obtain ⟨pb, off, e, _, _, hc⟩ := roomy_bytes (K := g + 1) hR (Nat.lt_succ_self g) (by omega) hne
      obtain ⟨rfl, rfl⟩ : g = pb ∧ off = 0 := by simp only [Option.some.injEq, Addr.mk.injEq] at e; exact ⟨e.1, e.2.1.symm⟩
      exact decode_any g 0 (l.length + 3) q l w hc hg (by rw [HL.out]; exact hq) (by omega) (by rw [HL.out]; exact hlen))
    have HAt := Lib.hid (fun w => at_any ⟨l.toArray⟩ (by show l.toArray.size ≤ _; simp only [List.size_toArray]; rw [HL.out]; exact hlen) q (by show q < l.toArray.size; simp only [List.size_toArray]; rw [HL.out]; exact hq) w)
    have hsz : (⟨l.toArray⟩ : ByteArray).size = n := by show l.toArray.size = n; simp only [List.size_toArray]; exact HL.out
    rw [HL.out] at HDec HT
    rw [hsz] at HAt
    simp only at HAt
    clear harg hsz hne
    obtain ⟨R, hR⟩ : ∃ R, formAt (l.drop q) = R := ⟨_, rfl⟩
    rw [hR] at HDec HAt
    clear hR
    go_enter Try.func4, Try.ntmps4
    go_wp2_with fail
    refine (beyond_any _ _).mono ?_
    rintro e w1 ⟨rfl, rfl⟩
    go_wp2_with fail
    refine (HRoom.out _ HB.out).mono ?_
    rintro e w1 ⟨rfl, hR, hb1⟩
    have hg1 : W.heap.size < w1.heap.size := (Array.getElem?_eq_some_iff.1 hR).1
    have HR := Lib.hid hR
    clear hR
    cases R with
    | ok r m =>
      go_wp2_with fail
      refine (HDec.out _ _ HR.out hg1).mono ?_
      rintro e w2 ⟨rfl, hb2⟩
      have hb12 := hb1.trans (hb2.mono hb1.size)
      have hR2 : Roomy W.heap.size l w2 := (hb2.block _ hg1).trans HR.out
      have HR2 := Lib.hid hR2
      clear hR2
      unfold decVal
      go_wp2_with fail
      refine (HLeft.out _ _ _ _ (HB.out.keep hb12) HR2.out).mono ?_
      rintro e w3 ⟨rfl, hd⟩
      have hb3 := hb12.trans hd.below
      have ht := HT.out w3 _ _ (HB.out.keep hb3)
      go_wp2_with fail
      refine (HAt.out _).mono ?_
      rintro e w4 ⟨rfl, rfl⟩
      unfold atVal
      go_wp2_with fail
      go_ret
      exact ⟨rfl, hb3⟩
    | byte k =>
      go_wp2_with fail
      refine (HDec.out _ _ HR.out hg1).mono ?_
      rintro e w2 ⟨rfl, hb2⟩
      have hb12 := hb1.trans (hb2.mono hb1.size)
      have hR2 : Roomy W.heap.size l w2 := (hb2.block _ hg1).trans HR.out
      have HR2 := Lib.hid hR2
      clear hR2
      unfold decVal
      go_wp2_with fail
      refine (HLeft.out _ _ _ _ (HB.out.keep hb12) HR2.out).mono ?_
      rintro e w3 ⟨rfl, hd⟩
      have hb3 := hb12.trans hd.below
      have ht := HT.out w3 _ _ (HB.out.keep hb3)
      go_wp2_with fail
      refine (HAt.out _).mono ?_
      rintro e w4 ⟨rfl, rfl⟩
      unfold atVal
      go_wp2_with fail
      refine (spot_yes _ _ _).mono ?_
      rintro e w5 ⟨rfl, hb5⟩
      go_wp2_with fail
      go_ret
      exact ⟨rfl, hb3.trans (hb5.mono hb3.size)⟩
    | cut =>
      go_wp2_with fail
      refine (HDec.out _ _ HR.out hg1).mono ?_
      rintro e w2 ⟨rfl, hb2⟩
      have hb12 := hb1.trans (hb2.mono hb1.size)
      have hR2 : Roomy W.heap.size l w2 := (hb2.block _ hg1).trans HR.out
      have HR2 := Lib.hid hR2
      clear hR2
      unfold decVal
      go_wp2_with fail
      refine (HLeft.out _ _ _ _ (HB.out.keep hb12) HR2.out).mono ?_
      rintro e w3 ⟨rfl, hd⟩
      have hb3 := hb12.trans hd.below
      have ht := HT.out w3 _ _ (HB.out.keep hb3)
      go_wp2_with fail
      refine (HAt.out _).mono ?_
      rintro e w4 ⟨rfl, rfl⟩
      unfold atVal
      go_wp2_with fail
      refine (spot_yes _ _ _).mono ?_
      rintro e w5 ⟨rfl, hb5⟩
      go_wp2_with fail
      go_ret
      exact ⟨rfl, hb3.trans (hb5.mono hb3.size)⟩

theorem own : ownKnob Try.prog.godebug = none := by kernel_rfl

set_option maxRecDepth 100000 in
theorem utfDecodes_lifted (os : Os) (started : os.Started) (H : Type) (enc : TypeId × Value → H) :
    ReturnsInHanded {} Try.checked os 4 .any (Rows.utfDecodesSpec.pre6 enc Try.prog Try.f4 Rows.utfDecodesRow.domain false) (Rows.utfDecodesSpec.post enc Try.prog Try.f4 false true false false) := by
  refine returnsInHanded_of_change_sized (C := Try.checked) own started (by kernel_rfl) Try.func4
    (ChangeSpec.witness6 (enc := enc) (C := Try.checked) false ⟨#[], #[.slice none 0 0, .int .i64 0], []⟩ 8 (by kernel_rfl) (by kernel_rfl) (by kernel_rfl) (by kernel_rfl)) ?_
  intro W base args ds gs before hval0 hW _ hsz0 _
  have hsz : (DataW.weightsEach Try.prog (Try.f4.params.toList ++ Rows.utfDecodesSpec.plain.varTypes Try.prog) (ds ++ gs)).all (· ≤ reachBytes) = true := hsz0
  clear hsz0
  have hval : ∀ (j : Nat) t v, Try.f4.params[j]? = some t → args[j]? = some v → Value.okWide Try.prog W .any base t v := hval0
  have hW' := hW
  obtain ⟨p, q, hA0, hV, rfl, hfz, hnd⟩ := hW
  have hA : DataW.TrodAll enc Try.prog W 0 (fun _ => true) true Try.f4.params.toList args.toList ds p := hA0
  rw [Try.params4] at hA hval hsz
  obtain ⟨v0, vs0, d0, ds0, p0, q0, hargs, rfl, rfl, h0, r0⟩ := trodAll_cons hA
  obtain ⟨v1, vs1, d1, ds1, p1, q1, rfl, rfl, rfl, h1, r1⟩ := trodAll_cons r0
  obtain ⟨rfl, rfl, rfl⟩ := trodAll_nil r1
  obtain rfl : args = #[v0, v1] := by cases args; simp_all
  obtain ⟨rfl, rfl⟩ := trodVars_none hV
  have h0k := h0
  obtain ⟨a0, c0, l0, rfl, m0, n0, B0, s0, k0⟩ := bytes_open (hval 0 22 v0 rfl rfl) h0 W.heap.size (Nat.le_refl _)
  obtain ⟨x1, rfl, rfl, rfl, m1⟩ := open_int Try.underlying3 (hval 1 3 v1 rfl rfl) h1
  have z0 := bytes_reach hsz (j := 0) rfl rfl s0
  clear hA0 hval0
  simp only [List.append_nil] at hW'
  have hlt0 : ∀ x ∈ p0, x.block < W.heap.size := fun x hx => by have h := hW'.lt x (by simp [hx]); simpa using h
  refine (utfDecodes_walk a0 c0 l0 x1 W n0 B0 z0 k0 m1).mono fun e W' ⟨he, hg⟩ => ?_
  subst he
  refine ⟨_, rfl, _, _, _, [], p0, [], hW', ?_, ?_, ?_, hg.frame _, fun h => by cases h⟩
  · exact trodAll_cons_mk (shut_bool Try.underlying4 _) trodAll_mk0
  · have t0 := Below.trod (by kernel_rfl) (by kernel_rfl) (of_decide_eq_true (by kernel_rfl)) h0k hg hlt0
    have ha := (trodAll_cons_mk t0 (trodAll_cons_mk (shut_int Try.underlying3 m1) trodAll_mk0))
    simp only [List.append_nil] at ha
    exact ha
  · rfl

/-- UtfDecodes. -/
theorem utfDecodes_proved : Rows.UtfDecodesSaid :=
  OpenClaim.holds_of_wide 4 Try.f4 rfl rfl rfl rfl rfl rfl rfl ⟨rfl, rfl, rfl, rfl, rfl⟩ rfl rfl rfl rfl rfl (by kernel_rfl) Try.func4 (by kernel_rfl)
    (of_decide_eq_true (by kernel_rfl)) (by unfold Func.isWrapper; first | (rw [if_pos (by decide +kernel)]; kernel_rfl) | (rw [if_neg (by decide +kernel)]; exact ⟨rfl, rfl⟩))
    (fun os started H enc _ => utfDecodes_lifted os started H enc)
#print axioms utfDecodes_proved
end Go.Proofs.Ytjbhehkkigopmaa
