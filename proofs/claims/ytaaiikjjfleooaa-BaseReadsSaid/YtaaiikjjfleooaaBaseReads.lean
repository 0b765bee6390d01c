/- The law BaseReads holds: what base.Read reads or why it doesn't is what the document's answer tells; what is read is written so, in memory of its own. Of texts of more than 2^27 bytes, and of numbers beyond an alphabet's type, the law asks nothing. -/
import Derived.Test.YtaaiikjjfleooaaReads
import Derived.ChangeMaps5
namespace Go.Proofs.Ytaaiikjjfleooaa
open Go.ChangeMaps Go.ChangeShapes Go.WideShapes Go.ChangeAt Go.RowKit Go.Lib

theorem own : ownKnob Try.prog.godebug = none := by kernel_rfl

set_option maxRecDepth 100000 in
set_option maxHeartbeats 1000000 in
theorem reads_walk (a : Int) (s0 : ByteArray) (hlen : s0.data.size ≤ 140737488351232) (w : World) :
    Calls Try.prog 4 #[.int .i64 a, .string s0] w fun e w' => e = .returned (.bool true) ∧ Below w.heap.size w w' := by
  obtain ⟨n, hsn⟩ : ∃ n, s0.size = n := ⟨_, rfl⟩
  have hlen' : n ≤ 140737488351232 := by rw [← hsn]; exact hlen
  clear hlen
  by_cases hbig : 134217728 < n
  · have e1 : decide ((134217728 : Int) < (n : Int)) = true := decide_eq_true (by omega)
    go_enter Try.func4, Try.ntmps4
    go_wp2_with fail
    refine (beyond_any _ _).mono ?_
    rintro e w1 ⟨rfl, rfl⟩
    go_wp2_with fail
    go_ret
    exact ⟨rfl, Below.refl _ _⟩
  have e1 : decide ((134217728 : Int) < (n : Int)) = false := decide_eq_false (by omega)
  obtain ⟨u, hu, hu0, hu1⟩ : ∃ u : Int, a % 256 = u ∧ 0 ≤ u ∧ u ≤ 255 := ⟨a % 256, rfl, by omega, by omega⟩
  by_cases hau : a = u
  case neg =>
    have e2 : (a != u) = true := by rw [bne_iff_ne]; exact hau
    clear hau
    go_enter Try.func4, Try.ntmps4
    go_wp2_with fail
    refine (beyond_any _ _).mono ?_
    rintro e w1 ⟨rfl, rfl⟩
    go_wp2_with fail
    go_ret
    exact ⟨rfl, Below.refl _ _⟩
  subst hau
  have e2 : (a != a) = false := by simp
  by_cases h3 : a = 1 ∨ a = 2 ∨ a = 3
  case neg =>
    have HN := Lib.hid (fun w => read_none a hu0 hu1 (by omega) s0 w)
    go_enter Try.func4, Try.ntmps4
    go_wp2_with fail
    refine (beyond_any _ _).mono ?_
    rintro e w1 ⟨rfl, rfl⟩
    go_wp2_with fail
    refine (HN.out _).mono ?_
    rintro e w1 ⟨rfl, hb1⟩
    go_wp2_with fail
    refine (refBits_none a (by omega) _).mono ?_
    rintro e w2 ⟨rfl, rfl⟩
    go_wp2_with fail
    refine (errno_arg _).mono ?_
    rintro e w2 ⟨rfl, rfl⟩
    go_wp2_with fail
    go_ret
    exact ⟨rfl, hb1⟩
  obtain ⟨q, hq⟩ : ∃ q, (a = 1 ∧ q = 4) ∨ (a = 2 ∧ q = 5) ∨ (a = 3 ∧ q = 6) := by
    rcases h3 with h | h | h
    · exact ⟨4, .inl ⟨h, rfl⟩⟩
    · exact ⟨5, .inr (.inl ⟨h, rfl⟩)⟩
    · exact ⟨6, .inr (.inr ⟨h, rfl⟩)⟩
  have ha1 : 1 ≤ a := by omega
  have ha3 : a ≤ 3 := by omega
  have hq0 : (((q : Nat) : Int) == 0) = false := beq_eq_false_iff_ne.2 (by omega)
  have hq4 : 4 ≤ q := by omega
  have hq6 : q ≤ 6 := by omega
  have HQ := Lib.hid hq
  have hn27 : n ≤ 134217728 := by omega
  obtain ⟨s, hs⟩ : ∃ s, s0.data.toList = s := ⟨_, rfl⟩
  have hs0 : (⟨s.toArray⟩ : ByteArray) = s0 := by rw [← hs]
  have hsl : s.length = n := by rw [← hs, Array.length_toList]; exact hsn
  have HRd := Lib.hid (fun w => read_in a q hq s (by omega) w)
  have HRf := Lib.hid (fun w => refRead_some a q hq s (by omega) w)
  rw [hs0] at HRd HRf
  have HS0 := Lib.hid hs0
  have HSl := Lib.hid hsl
  clear hq h3 hs hs0 hsl hbig hu
  go_enter Try.func4, Try.ntmps4
  go_wp2_with fail
  refine (beyond_any _ _).mono ?_
  rintro e w1 ⟨rfl, rfl⟩
  go_wp2_with fail
  refine (HRd.out _).mono ?_
  rintro e w1 ⟨v1, er1, rfl, hr1, hb1⟩
  have s1 := hb1.size
  go_wp2_with fail
  refine (refBits_some a q HQ.out _).mono ?_
  rintro e w2 ⟨rfl, rfl⟩
  go_wp2_with fail
  refine (HRf.out _).mono ?_
  rintro e w2 ⟨v2, n1, n2, rfl, hr2, hb2⟩
  have g2 := hb1.trans (hb2.mono s1)
  have s2 := hb2.size
  rcases both_of hr1 hr2 with ⟨hne, rfl, rfl⟩ | ⟨rfl, rfl, hgood, hfit, hclean, ⟨gb, hgb, rfl, hwb⟩, ⟨gw, hgw, rfl, hww⟩⟩
  · have hd : (n1 != 0) = true := by rw [bne_iff_ne]; exact hne
    clear hr1 hr2 hne
    go_wp2_with fail
    refine (spot_yes n1 n2 _).mono ?_
    rintro e w3 ⟨rfl, hb3⟩
    go_wp2_with fail
    go_ret
    exact ⟨rfl, g2.trans (hb3.mono g2.size)⟩
  · clear hr1 hr2
    have hwrite := write_read a q HQ.out s hgood hfit hclean
    have hrl := readOf_length a q s
    have hRm : (readOf a q s).length ≤ 134217728 := by
      rw [hrl, HSl.out]
      have : q * n ≤ 6 * n := Nat.mul_le_mul_right n hq6
      omega
    have HIn := Lib.hid (fun B v e w (h : ReadIn a q s B v e w) => in_good h hgood hfit hclean)
    obtain ⟨L, hL⟩ : ∃ L, readOf a q s = L := ⟨_, rfl⟩
    rw [hL] at hwrite hRm hwb hww HIn ⊢
    clear hgood hfit hclean hrl
    have HWr := Lib.hid hwrite
    have hgb1 := whole_lt hwb
    have hgw1 := whole_lt hww
    go_wp2_with fail
    refine (HRd.out _).mono ?_
    rintro e w3 ⟨v3, er3, rfl, hr3, hb3⟩
    have g3 := g2.trans (hb3.mono g2.size)
    have s3 := hb3.size
    obtain ⟨rfl, gc, hgc, rfl, hwc⟩ := HIn.out _ _ _ _ hr3
    have hgc1 := whole_lt hwc
    have hwb3 : Whole gb L w3 := hwb.keep (hb2.trans (hb3.mono s2)) hgb1
    have hww3 : Whole gw L w3 := hww.keep hb3 hgw1
    clear hr3 hwb hww
    go_wp2_with fail
    refine (same_yes (some ⟨gb, 0, none⟩) (some ⟨gw, 0, none⟩) L.length L.length L w3 _ _ _ _ (whole_bytes (K := w3.heap.size) hwb3 (whole_lt hwb3) (by omega)) (whole_bytes (K := w3.heap.size) hww3 (whole_lt hww3) (by omega)) (fun h => by cases h) (fun h => by cases h)).mono ?_
    rintro e w4 ⟨rfl, rfl⟩
    go_wp2_with fail
    refine (same_yes (some ⟨gc, 0, none⟩) (some ⟨gw, 0, none⟩) L.length L.length L w3 _ _ _ _ (whole_bytes (K := w3.heap.size) hwc (whole_lt hwc) (by omega)) (whole_bytes (K := w3.heap.size) hww3 (whole_lt hww3) (by omega)) (fun h => by cases h) (fun h => by cases h)).mono ?_
    rintro e w4 ⟨rfl, rfl⟩
    obtain ⟨m, hm⟩ : ∃ m, L.length = m := ⟨_, rfl⟩
    have HM := Lib.hid hm
    rw [hm] at hRm ⊢
    clear hm
    go_wp2_with fail
    go_loopw [13] (fun i wr => ∃ (k : Nat) (bs : List UInt8), k ≤ m ∧ i = .int .i64 k ∧ bs.length = m ∧ Whole gb bs wr ∧ But w3.heap.size gb w3 wr) (fun i _ => m - (RowKit.intOf i).toNat)
    case atStart => exact ⟨0, L, Nat.zero_le _, rfl, HM.out, hwb3, But.refl _ _ _⟩
    case round =>
      obtain ⟨k, bs, hk, rfl, hbs, hwb, hbut⟩ := hrel
      by_cases hlt : k < m
      · have hkb : k < bs.length := by omega
        have hcell : wr.cell? ⟨gb, k, none⟩ = some (.int .u8 bs[k].toNat) := by
          have := hwb
          unfold Whole at this
          rw [cell_of_heap this]
          simp [byteCells, List.getElem?_eq_getElem hkb]
        have hfz : wr.frozen? ⟨gb, k, none⟩ = false := frozen_of_heap hwb _
        obtain ⟨b, hb⟩ : ∃ b : UInt8, (b.toNat : Int) = ((bs[k].toNat : Int) + 1) % 256 := ⟨UInt8.ofNat (bs[k].toNat + 1), by rw [UInt8.toNat_ofNat']; omega⟩
        have hset := whole_set hwb k b
        have hbut2 := hbut.set (p := ⟨gb, k, none⟩) (.inl rfl) (.int .u8 b.toNat)
        have hbl : (bs.set k b).length = m := by rw [List.length_set]; exact hbs
        have HB := Lib.hid hb.symm
        have HBL := Lib.hid hbl
        have HSet := Lib.hid hset
        have hlt256 := bs[k].toNat_lt
        clear hb hbl hset hwb hbut hbs
        generalize bs[k].toNat = y at *
        go_wp2_with fail
        go_roundw
        case rel =>
          rw [HB.out]
          exact ⟨k + 1, bs.set k b, by omega, by go_num, HBL.out, HSet.out, hbut2⟩
        case measure => simp [RowKit.intOf]; omega
      · obtain rfl : m = k := by omega
        have hwc4 : Whole gc L wr := (hbut.block gc hgc1 (by omega)).trans hwc
        have hww4 : Whole gw L wr := (hbut.block gw (by omega) (by omega)).trans hww3
        have g4 : Below w.heap.size w wr := g3.trans (hbut.below (by omega) g3.size)
        have hls : lettersOf a q L = s0 := by unfold lettersOf; rw [HWr.out]; exact HS0.out
        have H1 := write_letters a q HQ.out (some ⟨gc, 0, none⟩) m L wr (whole_bytes hwc4 (whole_lt hwc4) (by have := whole_lt hwc4; omega)) (by rw [HM.out]; exact hRm)
        rw [hls, HM.out] at H1
        have HH1 := Lib.hid H1
        clear H1 hls hwb hbut hbs hwc hww3 hwb3
        go_wp2_with fail
        refine HH1.out.mono ?_
        rintro e w5 ⟨rfl, hb5⟩
        have H2 := same_yes (some ⟨gc, 0, none⟩) (some ⟨gw, 0, none⟩) m m L w5 _ _ _ _ (whole_bytes (K := w5.heap.size) (hwc4.keep hb5 (whole_lt hwc4)) (whole_lt (hwc4.keep hb5 (whole_lt hwc4))) (by have := whole_lt (hwc4.keep hb5 (whole_lt hwc4)); omega)) (whole_bytes (K := w5.heap.size) (hww4.keep hb5 (whole_lt hww4)) (whole_lt (hww4.keep hb5 (whole_lt hww4))) (by have := whole_lt (hww4.keep hb5 (whole_lt hww4)); omega)) (fun h => by cases h) (fun h => by cases h)
        rw [HM.out] at H2
        have HH2 := Lib.hid H2
        clear H2
        go_wp2_with fail
        refine HH2.out.mono ?_
        rintro e w6 ⟨rfl, rfl⟩
        go_wp2_with fail
        go_ret
        exact ⟨rfl, g4.trans (hb5.mono g4.size)⟩

set_option maxRecDepth 100000 in
theorem reads_lifted (os : Os) (started : os.Started) (H : Type) (enc : TypeId × Value → H) :
    ReturnsInHanded {} Try.checked os 4 .any (Rows.baseReadsSpec.pre6 enc Try.prog Try.f4 Rows.baseReadsRow.domain false) (Rows.baseReadsSpec.post enc Try.prog Try.f4 false true false false) := by
  refine returnsInHanded_of_change_sized (C := Try.checked) own started (by kernel_rfl) Try.func4
    (ChangeSpec.witness6 (enc := enc) (C := Try.checked) false ⟨#[], #[.int .i64 0, .string ⟨#[]⟩], []⟩ 8 (by kernel_rfl) (by kernel_rfl) (by kernel_rfl) (by kernel_rfl)) ?_
  intro W base args ds gs before hval0 hW _ hsz0 _
  have hsz : (DataW.weightsEach Try.prog (Try.f4.params.toList ++ Rows.baseReadsSpec.plain.varTypes Try.prog) (ds ++ gs)).all (· ≤ reachBytes) = true := hsz0
  clear hsz0
  have hval : ∀ (j : Nat) t v, Try.f4.params[j]? = some t → args[j]? = some v → Value.okWide Try.prog W .any base t v := hval0
  have hW' := hW
  obtain ⟨p, q, hA0, hV, rfl, hfz, hnd⟩ := hW
  have hA : DataW.TrodAll enc Try.prog W 0 (fun _ => true) true Try.f4.params.toList args.toList ds p := hA0
  rw [Try.params4] at hA hval hsz
  obtain ⟨v0, vs0, d0, ds0, p0, q0, hargs, rfl, rfl, h0, r0⟩ := trodAll_cons hA
  obtain ⟨v1, vs1, d1, ds1, p1, q1, rfl, rfl, rfl, h1, r1⟩ := trodAll_cons r0
  obtain ⟨rfl, rfl, rfl⟩ := trodAll_nil r1
  obtain rfl : args = #[v0, v1] := by cases args; simp_all
  obtain ⟨rfl, rfl⟩ := trodVars_none hV
  obtain ⟨a, rfl, rfl, rfl, wa⟩ := open_int Try.underlying3 (hval 0 3 v0 rfl rfl) h0
  obtain ⟨b, rfl, rfl, rfl, mb⟩ := open_string Try.underlying9 (hval 1 9 v1 rfl rfl) h1
  have zb := sized_string hsz (j := 1) rfl rfl
  simp only [Array.length_toList, reachBytes] at zb
  clear hA0 hval0
  simp only [List.append_nil] at hW'
  refine (reads_walk a b zb W).mono fun e W' ⟨he, hg⟩ => ?_
  subst he
  refine ⟨_, rfl, _, _, _, [], [], [], hW', ?_, ?_, ?_, hg.frame _, fun h => by cases h⟩
  · exact trodAll_cons_mk (shut_bool Try.underlying4 _) trodAll_mk0
  · exact trodAll_cons_mk (shut_int Try.underlying3 wa) (trodAll_cons_mk (shut_string Try.underlying9 mb) trodAll_mk0)
  · rfl

/-- BaseReads. -/
theorem baseReads_proved : Rows.BaseReadsSaid :=
  OpenClaim.holds_of_wide 4 Try.f4 rfl rfl rfl rfl rfl rfl rfl ⟨rfl, rfl, rfl, rfl, rfl⟩ rfl rfl rfl rfl rfl (by kernel_rfl) Try.func4 (by kernel_rfl)
    (of_decide_eq_true (by kernel_rfl)) (by unfold Func.isWrapper; first | (rw [if_pos (by decide +kernel)]; kernel_rfl) | (rw [if_neg (by decide +kernel)]; exact ⟨rfl, rfl⟩))
    (fun os started H enc _ => reads_lifted os started H enc)
#print axioms baseReads_proved
end Go.Proofs.Ytaaiikjjfleooaa
