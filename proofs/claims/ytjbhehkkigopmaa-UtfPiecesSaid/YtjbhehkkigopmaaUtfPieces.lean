/- The law UtfPieces holds: bytes fed at once, in two pieces with an empty one between, and byte by byte leave three feeders that stand as the document's answer says of the whole. Of rows of more than 2^31 - 1 bytes the law asks nothing. -/
import Derived.Test.YtjbhehkkigopmaaUtfStands
import Derived.Test.YtjbhehkkigopmaaSliceB
import Derived.ChangeMaps5
namespace Go.Proofs.Ytjbhehkkigopmaa
open Go.ChangeMaps Go.ChangeShapes Go.WideShapes Go.ChangeAt Go.RowKit Go.Lib Go.Joins

theorem feederAt_new {F : Nat} {w : World} (h : FeedBlk F 0 0 0 0 0 false w) : FeederAt F [] w := ⟨0, 0, 0, 0, 0, false, h, .inr ⟨rfl, rfl, [], cur0, rfl, rfl, tail_nil _ _ _⟩⟩
theorem FeederAt.but {F b K : Nat} {came : List UInt8} {w w' : World} (h : FeederAt F came w) (k : But b K w w') (hb : F < b) (hK : F ≠ K) : FeederAt F came w' := by
  obtain ⟨f0, f1, f2, held, taken, wrong, hblk, hst⟩ := h
  exact ⟨f0, f1, f2, held, taken, wrong, (k.block F hb hK).trans hblk, hst⟩
theorem FeederAt.below {F B : Nat} {came : List UInt8} {w w' : World} (h : FeederAt F came w) (k : Below B w w') (hb : F < B) : FeederAt F came w' := by
  obtain ⟨f0, f1, f2, held, taken, wrong, hblk, hst⟩ := h
  exact ⟨f0, f1, f2, held, taken, wrong, (k.block F hb).trans hblk, hst⟩
theorem FeederAt.lt {F : Nat} {came : List UInt8} {w : World} (h : FeederAt F came w) : F < w.heap.size := by
  obtain ⟨f0, f1, f2, held, taken, wrong, hblk, hst⟩ := h
  exact hblk.lt

set_option maxRecDepth 100000 in
set_option maxHeartbeats 16000000 in
theorem utfPieces_walk (a : Option Addr) (cap : Nat) (l : List UInt8) (cut : Int) (W : World) (hn : a = none → l = []) (hB : Bytes W.heap.size W.heap.size a l W) (hlen : l.length ≤ 140737488351232) (hcap : l.length ≤ cap) (_ : (Lit.int .i64 cut).wf = true) :
    Calls Try.prog 12 #[.slice a l.length cap, .int .i64 cut] W fun e w' => e = .returned (.bool true) ∧ Below W.heap.size W w' := by
  have HB := Lib.hid hB
  have HNN := Lib.hid hn
  obtain ⟨n, hln⟩ : ∃ n, l.length = n := ⟨_, rfl⟩
  have HL := Lib.hid hln
  by_cases hbig : 2147483647 < n
  · rw [hln]
    have e1 : decide ((2147483647 : Int) < (n : Int)) = true := decide_eq_true (by omega)
    clear hln hB hn hlen hcap
    go_enter Try.func12, Try.ntmps12
    go_wp2_with fail
    refine (beyond_any _ _).mono ?_
    rintro e w1 ⟨rfl, rfl⟩
    go_wp2_with fail
    go_ret
    exact ⟨rfl, Below.refl _ _⟩
  have e1 : decide ((2147483647 : Int) < (n : Int)) = false := decide_eq_false (by omega)
  obtain ⟨c, hc, hcc⟩ : ∃ c : Nat, c ≤ n ∧ ((cut = (c : Int) ∧ 0 ≤ cut) ∨ ((cut < 0 ∨ (n : Int) < cut) ∧ (n : Int) / 2 = (c : Int))) := by
    by_cases h : cut < 0 ∨ (n : Int) < cut
    · exact ⟨n / 2, by omega, .inr ⟨h, by omega⟩⟩
    · exact ⟨cut.toNat, by omega, .inl ⟨by omega, by omega⟩⟩
  obtain ⟨q1, hq1, hB1⟩ := slice_to a n cap c (by omega)
  obtain ⟨q2, hq2, hB2⟩ := slice_from a n cap c hc (by omega)
  have HB1 := Lib.hid (fun w b K h => hB1 l w b K hln hc h)
  have HB2 := Lib.hid (fun w b K h => hB2 l w b K hln h)
  have HF := Lib.hid (fun F came p cap' l' w hF hB hlen => feed_any F came p cap' l' w hF hB hlen)
  have HSt := Lib.hid (fun F b K (w : World) hF hB hb => stands_any F a cap b K l w hF hB hn hlen hb)
  have HOne := Lib.hid (fun (i : Nat) (hi : i < n) => slice_one a n cap i hi (by omega))
  have HFa := Lib.hid (fun F w hF hB => feed_any F [] a cap l w hF hB (by simpa using hlen))
  have hl1 : (l.take c).length = c := by rw [List.length_take]; omega
  have hl2 : (l.drop c).length = n - c := by rw [List.length_drop]; omega
  have HFb := Lib.hid (fun F w hF hB => feed_any F [] q1 cap (l.take c) w hF hB (by simp; omega))
  have HFc := Lib.hid (fun F w hF hB => feed_any F (l.take c) none 0 [] w hF hB (by simp; omega))
  have HFd := Lib.hid (fun F w hF hB => feed_any F (l.take c) q2 (cap - c) (l.drop c) w hF hB (by simp; omega))
  rw [hl1] at HFb
  rw [hl2] at HFd
  simp only [List.append_nil, List.nil_append, List.take_append_drop, List.length_nil] at HFa HFb HFc HFd
  unfold FeedOut at HFa HFb HFc HFd
  rw [hln] at HSt HFa hlen hcap ⊢
  clear hln hB hn hbig hB1 hB2 hl1 hl2 HF
  have hguard : (cut = (c : Int)) ∨ (cut < 0 ∧ (n : Int) / 2 = (c : Int)) ∨ (¬ cut < 0 ∧ (n : Int) < cut ∧ (n : Int) / 2 = (c : Int)) := by omega
  clear hcc
  rcases hguard with rfl | ⟨g1, g3⟩ | ⟨g1, g2, g3⟩
  all_goals
    go_enter Try.func12, Try.ntmps12
    go_wp2_with fail
    refine (beyond_any _ _).mono ?_
    rintro e w1 ⟨rfl, rfl⟩
    go_wp2_with fail
    refine (new_any _).mono ?_
    rintro e w1 ⟨rfl, hf1, hb1, hz1⟩
    have HZ1 := Lib.hid hz1
    clear hz1
    go_wp2_with fail
    refine (new_any _).mono ?_
    rintro e w2 ⟨rfl, hf2, hb2, hz2⟩
    have HZ2 := Lib.hid hz2
    clear hz2
    go_wp2_with fail
    refine (new_any _).mono ?_
    rintro e w3 ⟨rfl, hf3, hb3, hz3⟩
    have HZ3 := Lib.hid hz3
    clear hz3
    have s12 : W.heap.size < w1.heap.size := by have h := HZ1.out; omega
    have s23 : w1.heap.size < w2.heap.size := by have h := HZ2.out; omega
    have s34 : w2.heap.size < w3.heap.size := by have h := HZ3.out; omega
    have G3 := Lib.hid ((hb1.trans (hb2.mono hb1.size)).trans (hb3.mono (by omega)))
    have A1 := Lib.hid ((feederAt_new hf1).below (hb2.trans (hb3.mono (by omega))) s12)
    have A2 := Lib.hid ((feederAt_new hf2).below hb3 s23)
    have A3 := Lib.hid (feederAt_new hf3)
    clear hf1 hf2 hf3 hb1 hb2 hb3
    go_wp2_with fail
    refine (HFa.out _ _ A1.out ((HB.out.keep G3.out).at (by omega) (Nat.le_refl _))).mono ?_
    rintro e w4 ⟨rfl, a1, k4⟩
    have s4 := k4.size
    have G4 := Lib.hid (G3.out.trans (k4.below (Nat.le_refl _) (by omega)))
    have B1 := Lib.hid a1
    have B2 := Lib.hid (A2.out.but k4 (by omega) (by omega))
    have B3 := Lib.hid (A3.out.but k4 (by omega) (by omega))
    clear a1 k4
    go_wp2_with fail
    refine (HFb.out _ _ B2.out (HB1.out _ _ _ ((HB.out.keep G4.out).at (by omega) (by omega)))).mono ?_
    rintro e w5 ⟨rfl, a2, k5⟩
    have s5 := k5.size
    have G5 := Lib.hid (G4.out.trans (k5.below (by omega) (by omega)))
    have C1 := Lib.hid (B1.out.but k5 (by omega) (by omega))
    have C2 := Lib.hid a2
    have C3 := Lib.hid (B3.out.but k5 (by omega) (by omega))
    clear a2 k5
    go_wp2_with fail
    refine (HFc.out _ _ C2.out (fun h => absurd rfl h)).mono ?_
    rintro e w6 ⟨rfl, a2, k6⟩
    have s6 := k6.size
    have G6 := Lib.hid (G5.out.trans (k6.below (by omega) (by omega)))
    have D1 := Lib.hid (C1.out.but k6 (by omega) (by omega))
    have D2 := Lib.hid a2
    have D3 := Lib.hid (C3.out.but k6 (by omega) (by omega))
    clear a2 k6
    go_wp2_with fail
    refine (HFd.out _ _ D2.out (HB2.out _ _ _ ((HB.out.keep G6.out).at (by omega) (by omega)))).mono ?_
    rintro e w7 ⟨rfl, a2, k7⟩
    have s7 := k7.size
    have G7 := Lib.hid (G6.out.trans (k7.below (by omega) (by omega)))
    have E1 := Lib.hid (D1.out.but k7 (by omega) (by omega))
    have E2 := Lib.hid a2
    have E3 := Lib.hid (D3.out.but k7 (by omega) (by omega))
    clear a2 k7
    go_wp2_with fail
    go_loopw [8] (fun v wr => ∃ i : Nat, i ≤ n ∧ v = .int .i64 i ∧ Hid (FeederAt w2.heap.size (l.take i) wr) ∧ Hid (FeederAt W.heap.size l wr) ∧ Hid (FeederAt w1.heap.size l wr) ∧ Hid (Below W.heap.size W wr) ∧ w3.heap.size ≤ wr.heap.size) (fun v _ => n - (RowKit.intOf v).toNat)
    case atStart => exact ⟨0, Nat.zero_le _, rfl, E3, E1, E2, G7, by omega⟩
    case round =>
      obtain ⟨i, hi, rfl, hf3, hf1, hf2, hg, hsz⟩ := hrel
      by_cases hlt : i < n
      · obtain ⟨q3, hq3, hB3⟩ := HOne.out i hlt
        have hil : i < l.length := by rw [HL.out]; exact hlt
        have HFe := Lib.hid (feed_any w2.heap.size (l.take i) q3 (cap - i) [l[i]] wr hf3.out (hB3 l wr _ _ hil ((HB.out.keep hg.out).at (by omega) (by omega))) (by rw [List.length_take]; simp; omega))
        rw [← List.take_succ_eq_append_getElem hil, List.length_singleton] at HFe
        unfold FeedOut at HFe
        clear hB3
        go_wp2_with fail
        refine HFe.out.mono ?_
        rintro e w8 ⟨rfl, a3, k8⟩
        have s8 := k8.size
        have X1 := Lib.hid (hf1.out.but k8 (by omega) (by omega))
        have X2 := Lib.hid (hf2.out.but k8 (by omega) (by omega))
        have X3 := Lib.hid a3
        have XG := Lib.hid (hg.out.trans (k8.below (by omega) (by omega)))
        clear a3 k8 HFe
        go_wp2_with fail
        go_roundw
        case rel => exact ⟨i + 1, by omega, by go_num, X3, X1, X2, XG, by omega⟩
        case measure => simp [RowKit.intOf]; omega
      · obtain rfl : i = n := by omega
        have hf3' := hf3.out
        rw [List.take_of_length_le (by rw [HL.out]; exact Nat.le_refl _)] at hf3'
        have HF3 := Lib.hid hf3'
        clear hf3 hf3'
        go_wp2_with fail
        refine (HSt.out _ _ W.heap.size wr hf1.out ((HB.out.keep hg.out).at (Nat.le_refl _) (Nat.le_refl _)) (by omega)).mono ?_
        rintro e w8 ⟨rfl, b8⟩
        have s8 := b8.size
        have G8 := Lib.hid (hg.out.trans (b8.mono (by omega)))
        have Y2 := Lib.hid (hf2.out.below b8 (by omega))
        have Y3 := Lib.hid (HF3.out.below b8 (by omega))
        clear b8
        go_wp2_with fail
        refine (HSt.out _ _ W.heap.size w8 Y2.out ((HB.out.keep G8.out).at (Nat.le_refl _) (Nat.le_refl _)) (by omega)).mono ?_
        rintro e w9 ⟨rfl, b9⟩
        have s9 := b9.size
        have G9 := Lib.hid (G8.out.trans (b9.mono (by omega)))
        have Z3 := Lib.hid (Y3.out.below b9 (by omega))
        clear b9
        go_wp2_with fail
        refine (HSt.out _ _ W.heap.size w9 Z3.out ((HB.out.keep G9.out).at (Nat.le_refl _) (Nat.le_refl _)) (by omega)).mono ?_
        rintro e w10 ⟨rfl, b10⟩
        go_wp2_with fail
        go_ret
        exact ⟨rfl, G9.out.trans (b10.mono (by omega))⟩

theorem own : ownKnob Try.prog.godebug = none := by kernel_rfl

set_option maxRecDepth 100000 in
theorem utfPieces_lifted (os : Os) (started : os.Started) (H : Type) (enc : TypeId × Value → H) :
    ReturnsInHanded {} Try.checked os 12 .any (Rows.utfPiecesSpec.pre6 enc Try.prog Try.f12 Rows.utfPiecesRow.domain false) (Rows.utfPiecesSpec.post enc Try.prog Try.f12 false true false false) := by
  refine returnsInHanded_of_change_sized (C := Try.checked) own started (by kernel_rfl) Try.func12
    (ChangeSpec.witness6 (enc := enc) (C := Try.checked) false ⟨#[], #[.slice none 0 0, .int .i64 0], []⟩ 8 (by kernel_rfl) (by kernel_rfl) (by kernel_rfl) (by kernel_rfl)) ?_
  intro W base args ds gs before hval0 hW _ hsz0 _
  have hsz : (DataW.weightsEach Try.prog (Try.f12.params.toList ++ Rows.utfPiecesSpec.plain.varTypes Try.prog) (ds ++ gs)).all (· ≤ reachBytes) = true := hsz0
  clear hsz0
  have hval : ∀ (j : Nat) t v, Try.f12.params[j]? = some t → args[j]? = some v → Value.okWide Try.prog W .any base t v := hval0
  have hW' := hW
  obtain ⟨p, q, hA0, hV, rfl, hfz, hnd⟩ := hW
  have hA : DataW.TrodAll enc Try.prog W 0 (fun _ => true) true Try.f12.params.toList args.toList ds p := hA0
  rw [Try.params12] at hA hval hsz
  obtain ⟨v0, vs0, d0, ds0, p0, q0, hargs, rfl, rfl, h0, r0⟩ := trodAll_cons hA
  obtain ⟨v1, vs1, d1, ds1, p1, q1, rfl, rfl, rfl, h1, r1⟩ := trodAll_cons r0
  obtain ⟨rfl, rfl, rfl⟩ := trodAll_nil r1
  obtain rfl : args = #[v0, v1] := by cases args; simp_all
  obtain ⟨rfl, rfl⟩ := trodVars_none hV
  have h0k := h0
  obtain ⟨a0, c0, l0, rfl, m0, n0, B0, s0, k0⟩ := bytes_open (hval 0 22 v0 rfl rfl) h0 W.heap.size (Nat.le_refl _)
  obtain ⟨x1, rfl, rfl, rfl, m1⟩ := open_int Try.underlying3 (hval 1 3 v1 rfl rfl) h1
  have z0 := bytes_reach hsz (j := 0) rfl rfl s0
  clear hA0 hval0
  simp only [List.append_nil] at hW'
  have hlt0 : ∀ x ∈ p0, x.block < W.heap.size := fun x hx => by have h := hW'.lt x (by simp [hx]); simpa using h
  refine (utfPieces_walk a0 c0 l0 x1 W n0 B0 z0 k0 m1).mono fun e W' ⟨he, hg⟩ => ?_
  subst he
  refine ⟨_, rfl, _, _, _, [], p0, [], hW', ?_, ?_, ?_, hg.frame _, fun h => by cases h⟩
  · exact trodAll_cons_mk (shut_bool Try.underlying4 _) trodAll_mk0
  · have t0 := Below.trod (by kernel_rfl) (by kernel_rfl) (of_decide_eq_true (by kernel_rfl)) h0k hg hlt0
    have ha := (trodAll_cons_mk t0 (trodAll_cons_mk (shut_int Try.underlying3 m1) trodAll_mk0))
    simp only [List.append_nil] at ha
    exact ha
  · rfl

/-- UtfPieces. -/
theorem utfPieces_proved : Rows.UtfPiecesSaid :=
  OpenClaim.holds_of_wide 12 Try.f12 rfl rfl rfl rfl rfl rfl rfl ⟨rfl, rfl, rfl, rfl, rfl⟩ rfl rfl rfl rfl rfl (by kernel_rfl) Try.func12 (by kernel_rfl)
    (of_decide_eq_true (by kernel_rfl)) (by unfold Func.isWrapper; first | (rw [if_pos (by decide +kernel)]; kernel_rfl) | (rw [if_neg (by decide +kernel)]; exact ⟨rfl, rfl⟩))
    (fun os started H enc _ => utfPieces_lifted os started H enc)
#print axioms utfPieces_proved
end Go.Proofs.Ytjbhehkkigopmaa
