/- The law BaseWrites holds: for every number and every row of at most 2^27 bytes (of longer ones the law asks nothing) base.Write, Hex and Web tell the letters that the document's answer tells, or ErrArg and nothing where the number is no alphabet, and what they were given stays. -/
import Derived.Test.YtaaiikjjfleooaaBaseWrite
import Derived.Test.YtaaiikjjfleooaaRefWrite
import Derived.Test.YtaaiikjjfleooaaRoomy
namespace Go.Proofs.Ytaaiikjjfleooaa
open Go.ChangeShapes Go.WideShapes Go.ChangeAt Go.RowKit Go.Lib

theorem own : ownKnob Try.prog.godebug = none := by kernel_rfl

/-- What Write answers, by the number. -/
def Wrote (u : Int) (l : List UInt8) (s e : Value) : Prop :=
  (∃ q, ((u = 1 ∧ q = 4) ∨ (u = 2 ∧ q = 5) ∨ (u = 3 ∧ q = 6)) ∧ s = .string (lettersOf u q l) ∧ e = .nilIface) ∨ ((u = 0 ∨ 4 ≤ u) ∧ s = .string ⟨#[]⟩ ∧ e = .iface 35 (.int .i64 2))

theorem refWrite_letters (a : Int) (q : Nat) (ha : (a = 1 ∧ q = 4) ∨ (a = 2 ∧ q = 5) ∨ (a = 3 ∧ q = 6)) (p : Option Addr) (cap : Nat) (l : List UInt8) (w : World)
    (hB : Bytes w.heap.size w.heap.size p l w) (hlen : l.length ≤ 134217728) :
    Calls Try.prog 16 #[.int .i64 a, .slice p l.length cap] w fun e w' => e = .returned (.string (lettersOf a q l)) ∧ Below w.heap.size w w' :=
  refWrite_some a q ha p cap l w hB hlen

set_option maxRecDepth 100000 in
set_option maxHeartbeats 4000000 in
/-- The law's walk, up to what Write has answered. -/
theorem writes_walk (a : Int) (p : Option Addr) (cap : Nat) (l : List UInt8) (w : World)
    (hn : p = none → l = []) (hB : Bytes w.heap.size w.heap.size p l w) (hlen : l.length ≤ 140737488351232) :
    Calls Try.prog 3 #[.int .i64 a, .slice p l.length cap] w fun e w' => e = .returned (.bool true) ∧ Below w.heap.size w w' := by
  by_cases hbig : 134217728 < l.length
  · have e1 : decide ((134217728 : Int) < (l.length : Int)) = true := decide_eq_true (by omega)
    go_enter Try.func3, Try.ntmps3
    go_wp2_with fail
    refine (beyond_any _ _).mono ?_
    rintro e w1 ⟨rfl, rfl⟩
    go_wp2_with fail
    go_ret
    exact ⟨rfl, Below.refl _ _⟩
  have e1 : decide ((134217728 : Int) < (l.length : Int)) = false := decide_eq_false (by omega)
  have HB := Lib.hid hB
  have HNN := Lib.hid hn
  have hl27 : l.length ≤ 134217728 := by omega
  have HR := Lib.hid (roomy_any p cap l w hB hlen)
  clear hB hn hbig
  -- what Write answers of the roomy copy
  obtain ⟨u, hu, hu0, hu1⟩ : ∃ u : Int, a % 256 = u ∧ 0 ≤ u ∧ u ≤ 255 := ⟨a % 256, rfl, by omega, by omega⟩
  have HW : ∀ (g : Nat) (v : World), g < v.heap.size → Roomy g l v → ∃ s er : Value, Wrote u l s er ∧ Calls Try.prog 13 #[.int .u8 u, .slice (some ⟨g, 0, none⟩) l.length (l.length + 2)] v fun e w' => e = .returned (.tuple #[s, er]) ∧ Below v.heap.size v w' := by
    intro g v hg hv
    by_cases h3 : u = 1 ∨ u = 2 ∨ u = 3
    · obtain ⟨q, hq⟩ : ∃ q, (u = 1 ∧ q = 4) ∨ (u = 2 ∧ q = 5) ∨ (u = 3 ∧ q = 6) := by
        rcases h3 with h | h | h
        · exact ⟨4, .inl ⟨h, rfl⟩⟩
        · exact ⟨5, .inr (.inl ⟨h, rfl⟩)⟩
        · exact ⟨6, .inr (.inr ⟨h, rfl⟩)⟩
      exact ⟨_, _, .inl ⟨q, hq, rfl, rfl⟩, write_letters u q hq _ _ l v (roomy_bytes hv hg (by omega)) hl27⟩
    · exact ⟨_, _, .inr ⟨by omega, rfl, rfl⟩, write_none u hu0 hu1 (by omega) _ v⟩
  have HWW := Lib.hid HW
  have HU := Lib.hid hu
  clear HW hu
  obtain ⟨n, hn⟩ : ∃ n, l.length = n := ⟨_, rfl⟩
  have HN := Lib.hid hn
  rw [hn] at HR e1 ⊢
  clear hn hlen hl27
  have hu2 : a % 256 = u := HU.out
  go_enter Try.func3, Try.ntmps3
  go_wp2_with fail
  refine (beyond_any _ _).mono ?_
  rintro e w1 ⟨rfl, rfl⟩
  go_wp2_with fail
  refine HR.out.mono ?_
  rintro e w1 ⟨rfl, hr1, hb1⟩
  have z1 : w.heap.size < w1.heap.size := (Array.getElem?_eq_some_iff.1 hr1).1
  obtain ⟨s, er, hwr, hcall⟩ := HWW.out w.heap.size w1 z1 hr1
  rw [HN.out] at hcall
  have HC := Lib.hid hcall
  have HWr := Lib.hid hwr
  clear hcall hwr
  go_wp2_with fail
  refine HC.out.mono ?_
  rintro e w2 ⟨rfl, hb2⟩
  have hr2 : Roomy w.heap.size l w2 := (hb2.block _ z1).trans hr1
  have g2 := hb1.trans (hb2.mono (by omega))
  have s2 := hb2.size
  go_wp2_with fail
  have HL := left_yes w.heap.size p cap l w2 w.heap.size w.heap.size (HB.out.keep g2) HNN.out hr2 (by rw [HN.out]; have := of_decide_eq_false e1; omega)
  rw [HN.out] at HL
  refine HL.mono ?_
  clear HL
  rintro e w3 ⟨rfl, rfl⟩
  go_wp2_with fail
  have hl27 : l.length ≤ 134217728 := by rw [HN.out]; have := of_decide_eq_false e1; omega
  have H1 := hex_letters p cap l w2 ((HB.out.keep g2).at (by omega) (by omega)) hl27
  rw [HN.out] at H1
  refine H1.mono ?_
  clear H1
  rintro e w3 ⟨rfl, hb3⟩
  have g3 := g2.trans (hb3.mono (by omega))
  have s3 := hb3.size
  go_wp2_with fail
  have H1 := refWrite_letters 1 4 (by decide) p cap l w3 ((HB.out.keep g3).at (by omega) (by omega)) hl27
  rw [HN.out] at H1
  refine H1.mono ?_
  clear H1
  rintro e w4 ⟨rfl, hb4⟩
  have g4 := g3.trans (hb4.mono (by omega))
  have s4 := hb4.size
  go_wp2_with fail
  have H1 := web_letters p cap l w4 ((HB.out.keep g4).at (by omega) (by omega)) hl27
  rw [HN.out] at H1
  refine H1.mono ?_
  clear H1
  rintro e w5 ⟨rfl, hb5⟩
  have g5 := g4.trans (hb5.mono (by omega))
  have s5 := hb5.size
  go_wp2_with fail
  have H1 := refWrite_letters 3 6 (by decide) p cap l w5 ((HB.out.keep g5).at (by omega) (by omega)) hl27
  rw [HN.out] at H1
  refine H1.mono ?_
  clear H1
  rintro e w6 ⟨rfl, hb6⟩
  have g6 := g5.trans (hb6.mono (by omega))
  have s6 := hb6.size
  clear hb1 hb2 hb3 hb4 hb5 hb6 hr1 hr2 g2 g3 g4 g5 HR HWW HC
  by_cases hau : a = u
  · rcases HWr.out with ⟨q, hq, rfl, rfl⟩ | ⟨hu3, rfl, rfl⟩
    · have hq0 : (((q : Nat) : Int) == 0) = false := beq_eq_false_iff_ne.2 (by omega)
      have HQ := Lib.hid hq
      have e2 : (a != u) = false := by rw [hau]; simp
      have HAU := Lib.hid hau
      clear hau hq HWr HU hu2
      have hu2 : a % 256 = u := by have := HAU.out; omega
      go_wp2_with fail
      refine (refBits_some a q (by rw [HAU.out]; exact HQ.out) _).mono ?_
      rintro e w7 ⟨rfl, rfl⟩
      go_wp2_with fail
      have H1 := refWrite_letters u q HQ.out p cap l w6 ((HB.out.keep g6).at (by omega) (by omega)) hl27
      rw [HN.out, ← HAU.out] at H1
      have HH1 := Lib.hid H1
      clear H1
      refine HH1.out.mono ?_
      rintro e w7 ⟨rfl, hb7⟩
      go_wp2_with fail
      go_ret
      exact ⟨by simp [HAU.out], g6.trans (hb7.mono (by omega))⟩
    · have e2 : (a != u) = false := by rw [hau]; simp
      have HAU := Lib.hid hau
      clear hau HWr HU hu2
      have hu2 : a % 256 = u := by have := HAU.out; omega
      go_wp2_with fail
      refine (refBits_none a (by have := HAU.out; omega) _).mono ?_
      rintro e w7 ⟨rfl, rfl⟩
      go_wp2_with fail
      refine (errno_arg _).mono ?_
      rintro e w7 ⟨rfl, rfl⟩
      go_wp2_with fail
      go_ret
      exact ⟨rfl, g6⟩
  · have e2 : (a != u) = true := by rw [bne_iff_ne]; exact hau
    clear hau HWr HU
    go_wp2_with fail
    go_ret
    exact ⟨rfl, g6⟩

set_option maxRecDepth 100000 in
theorem writes_lifted (os : Os) (started : os.Started) (H : Type) (enc : TypeId × Value → H) :
    ReturnsInHanded {} Try.checked os 3 .any (Rows.baseWritesSpec.pre6 enc Try.prog Try.f3 Rows.baseWritesRow.domain false) (Rows.baseWritesSpec.post enc Try.prog Try.f3 false true false false) := by
  refine returnsInHanded_of_change_sized (C := Try.checked) own started (by kernel_rfl) Try.func3
    (ChangeSpec.witness6 (enc := enc) (C := Try.checked) false ⟨#[], #[.int .i64 0, .slice none 0 0], []⟩ 8 (by kernel_rfl) (by kernel_rfl) (by kernel_rfl) (by kernel_rfl)) ?_
  intro W base args ds gs before hval0 hW _ hsz0 _
  have hsz : (DataW.weightsEach Try.prog (Try.f3.params.toList ++ Rows.baseWritesSpec.plain.varTypes Try.prog) (ds ++ gs)).all (· ≤ reachBytes) = true := hsz0
  clear hsz0
  have hval : ∀ (j : Nat) t v, Try.f3.params[j]? = some t → args[j]? = some v → Value.okWide Try.prog W .any base t v := hval0
  have hW' := hW
  obtain ⟨p, q, hA0, hV, rfl, hfz, hnd⟩ := hW
  have hA : DataW.TrodAll enc Try.prog W 0 (fun _ => true) true Try.f3.params.toList args.toList ds p := hA0
  rw [Try.params3] at hA hval hsz
  obtain ⟨v0, vs0, d0, ds0, p0, q0, hargs, rfl, rfl, h0, r0⟩ := trodAll_cons hA
  obtain ⟨v1, vs1, d1, ds1, p1, q1, rfl, rfl, rfl, h1, r1⟩ := trodAll_cons r0
  obtain ⟨rfl, rfl, rfl⟩ := trodAll_nil r1
  obtain rfl : args = #[v0, v1] := by cases args; simp_all
  obtain ⟨rfl, rfl⟩ := trodVars_none hV
  obtain ⟨a, rfl, rfl, rfl, wa⟩ := open_int Try.underlying3 (hval 0 3 v0 rfl rfl) h0
  have h1k := h1
  obtain ⟨a1, c1, l1, rfl, m1, n1, B1, s1⟩ := bytes_open (hval 1 22 v1 rfl rfl) h1 W.heap.size (Nat.le_refl _)
  clear hA0 hval0
  simp only [List.append_nil] at hW'
  have hlt : ∀ x ∈ p1, x.block < W.heap.size := fun x hx => by simpa using hW'.lt x (by simpa using hx)
  have z1 := bytes_reach hsz (j := 1) rfl rfl s1
  refine (writes_walk a a1 c1 l1 W n1 B1 z1).mono fun e W' ⟨he, hg⟩ => ?_
  subst he
  refine ⟨_, rfl, _, _, _, [], [] ++ p1, [], hW', ?_, ?_, ?_, hg.frame _, fun h => by cases h⟩
  · exact trodAll_cons_mk (shut_bool Try.underlying4 _) trodAll_mk0
  · have t1 := Below.trod (by kernel_rfl) (by kernel_rfl) (of_decide_eq_true (by kernel_rfl)) h1k hg hlt
    have ha := trodAll_cons_mk (shut_int Try.underlying3 wa) (trodAll_cons_mk t1 trodAll_mk0)
    rw [List.append_nil] at ha
    exact ha
  · rfl

/-- BaseWrites. -/
theorem baseWrites_proved : Rows.BaseWritesSaid :=
  OpenClaim.holds_of_wide 3 Try.f3 rfl rfl rfl rfl rfl rfl rfl ⟨rfl, rfl, rfl, rfl, rfl⟩ rfl rfl rfl rfl rfl (by kernel_rfl) Try.func3 (by kernel_rfl)
    (of_decide_eq_true (by kernel_rfl)) (by unfold Func.isWrapper; first | (rw [if_pos (by decide +kernel)]; kernel_rfl) | (rw [if_neg (by decide +kernel)]; exact ⟨rfl, rfl⟩))
    (fun os started H enc _ => writes_lifted os started H enc)
#print axioms baseWrites_proved
end Go.Proofs.Ytaaiikjjfleooaa
