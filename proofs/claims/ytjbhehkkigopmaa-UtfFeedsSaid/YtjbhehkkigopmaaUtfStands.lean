/- The contracts of affidavitref03's Held, and of affidavitlaw03's stands. -/
import Derived.Test.YtjbhehkkigopmaaUtfFeed2
import Derived.Test.YtjbhehkkigopmaaTells3
namespace Go.Proofs.Ytjbhehkkigopmaa
open Go.RowKit Go.Joins Go.Lib

/-- What Held answers. -/
def HeldOut (l : List UInt8) (w : World) (e : Ending) (w' : World) : Prop := ∃ h : Nat, e = .returned (.int .i64 h) ∧ (∀ tl c, feedS l [] cur0 = some (tl, c) → h = tl.length) ∧ w = w'

set_option maxRecDepth 100000 in
set_option maxHeartbeats 8000000 in
theorem refHeld_any (s : ByteArray) (hs : s.size ≤ 140737488351232) (w : World) :
    Calls Try.prog 60 #[.string s] w (HeldOut s.data.toList w) := by
  have hlen : s.data.toList.length = s.size := Array.length_toList
  obtain ⟨l, hl⟩ : ∃ l, s.data.toList = l := ⟨_, rfl⟩
  have HO := Lib.hid (fun (p r n : Nat) (hp : p < s.size) (hf : formAt (l.drop p) = .ok r n) w => at_ok_any s hs p hp r n (by rw [hl]; exact hf) w)
  have HB := Lib.hid (fun (p k : Nat) (hp : p < s.size) (hf : formAt (l.drop p) = .byte k) w => at_byte_any s hs p hp k (by rw [hl]; exact hf) w)
  have HC := Lib.hid (fun (p : Nat) (hp : p < s.size) (hf : formAt (l.drop p) = .cut) w => at_cut_any s hs p hp (by rw [hl]; exact hf) w)
  rw [hl] at hlen ⊢
  have HL := Lib.hid hlen
  clear hl hlen
  go_enter Try.func60, Try.ntmps60
  go_wp2_with fail
  go_loop [3] (fun v => ∃ (i : Nat) (c : Cur), i ≤ s.size ∧ v = .int .i64 i ∧ Hid (c.left = 0) ∧ Hid (feedS l [] cur0 = feedS (l.drop i) [] c)) (fun v => s.size - (intOf v).toNat)
  case atStart => exact ⟨0, cur0, Nat.zero_le _, rfl, rfl, rfl⟩
  case round =>
    obtain ⟨i, c, hi, rfl, hc, hk⟩ := hrel
    by_cases hlt : i < s.size
    · have hne : l.drop i ≠ [] := by intro e; have h := congrArg List.length e; rw [List.length_drop, HL.out] at h; simp at h; omega
      have hsay := feedAt_says c hc.out (l.drop i) hne
      cases hf : formAt (l.drop i) with
      | ok q n =>
        rw [hf] at hsay
        obtain ⟨d, h4, h5⟩ := hsay
        obtain ⟨h1, h2, h3⟩ := form_pos hf
        rw [List.length_drop, HL.out] at h3
        have HA := Lib.hid (HO.out i q n hlt hf)
        have HK := Lib.hid (hk.out.trans (by rw [h5, List.drop_drop]) : feedS l [] cur0 = feedS (l.drop (i + n)) [] d)
        have H4 := Lib.hid h4
        clear hf h5 h4 hk hne hc
        go_wp2_with fail
        refine (HA.out _).mono ?_
        rintro e w1 ⟨rfl, rfl⟩
        go_wp2_with fail
        go_round
        case rel => exact ⟨i + n, d, by omega, by go_num, H4, HK⟩
        case measure => simp [intOf]; omega
      | byte k =>
        rw [hf] at hsay
        have HA := Lib.hid (HB.out i k hlt hf)
        have HK := Lib.hid (hk.out.trans hsay)
        clear hf hk hne hc hsay
        go_wp2_with fail
        refine (HA.out _).mono ?_
        rintro e w1 ⟨rfl, rfl⟩
        go_wp2_with fail
        go_ret
        refine ⟨s.size - i, wide_ret (by omega), fun tl c h => ?_, rfl⟩
        rw [HK.out] at h
        cases h
      | cut =>
        rw [hf] at hsay
        obtain ⟨d, h5⟩ := hsay
        have HA := Lib.hid (HC.out i hlt hf)
        have HK := Lib.hid (hk.out.trans h5)
        clear hf hk hne hc h5
        go_wp2_with fail
        refine (HA.out _).mono ?_
        rintro e w1 ⟨rfl, rfl⟩
        go_wp2_with fail
        go_ret
        refine ⟨s.size - i, wide_ret (by omega), fun tl c h => ?_, rfl⟩
        rw [HK.out] at h
        simp only [Option.some.injEq, Prod.mk.injEq] at h
        rw [← h.1, List.length_drop, HL.out]
    · have hk2 := hk.out
      rw [List.drop_of_length_le (by rw [HL.out]; omega)] at hk2
      have HK := Lib.hid hk2
      clear hk hk2 hc
      go_wp2_with fail
      go_ret
      refine ⟨0, rfl, fun tl c h => ?_, rfl⟩
      rw [HK.out] at h
      simp only [feedS, Option.some.injEq, Prod.mk.injEq] at h
      rw [← h.1]
      rfl

/-- What a feeder tells at its end. -/
theorem end_any (F : Nat) (came : List UInt8) (w : World) (hF : FeederAt F came w) :
    Calls Try.prog 43 #[.pointer (some ⟨F, 0, none⟩)] w fun e w' => e = .returned (wrongAs (chk came 0 cur0)) ∧ Below w.heap.size w w' := by
  obtain ⟨f0, f1, f2, held, taken, wrong, hblk, hst⟩ := hF
  rcases hst with ⟨rfl, rfl, hnone, htk⟩ | ⟨rfl, rfl, tl, c, hsome, hheld, htail⟩
  · have h := end_blk F f0 f1 f2 0 taken true w hblk [] cur0 rfl (tail_nil _ _ _) kept_zero
    have hw := (feedS_chk came [] cur0 0).1.1 hnone
    have e : wrongAs (taken, true, cur0) = wrongAs (chk came 0 cur0) := by
      unfold wrongAs
      rw [hw, htk]
      simp
    rw [e] at h
    exact h
  · have h := end_blk F f0 f1 f2 held came.length false w hblk tl c hheld htail (kept_feed kept_zero hsome)
    have hc := (feedS_chk came [] cur0 0).2 tl c hsome
    rw [Nat.zero_add] at hc
    rw [hc]
    exact h

/-- What stands asks of a feeder: its place and what it holds. -/
theorem stands_facts {came : List UInt8} {f0 f1 f2 held taken : Nat} {wrong : Bool} (h : FSt came f0 f1 f2 held taken wrong) :
    ((wrongS came).1 = 30 ∧ taken = (wrongS came).2 ∧ held = 0) ∨ ((wrongS came).1 ≠ 30 ∧ taken = came.length ∧ ∃ tl c, feedS came [] cur0 = some (tl, c) ∧ held = tl.length) := by
  rcases h with ⟨rfl, rfl, hnone, htk⟩ | ⟨rfl, rfl, tl, c, hsome, hheld, _⟩
  · have hw := (feedS_chk came [] cur0 0).1.1 hnone
    refine .inl ⟨?_, ?_, rfl⟩
    · unfold wrongS; rw [hw]; rfl
    · unfold wrongS; rw [hw]; exact htk
  · have hc := (feedS_chk came [] cur0 0).2 tl c hsome
    refine .inr ⟨?_, rfl, tl, c, hsome, hheld⟩
    unfold wrongS
    rw [hc]
    simp only [Bool.false_eq_true, if_false]
    split <;> simp

/-- What bytes come to, told. -/
theorem tells_chk (l : List UInt8) (w : World) : Calls Try.prog 17 #[wrongAs (chk l 0 cur0), .int .i64 (wrongS l).1, .int .i64 (wrongS l).2] w fun e w' => e = .returned (.bool true) ∧ Below w.heap.size w w' := by
  cases h : rt l
  · obtain ⟨h1, h2⟩ := wrongAs_iface l h
    rw [h1]
    exact tells_spot _ _ (by omega) w
  · rw [wrongAs_nil l h, (wrongS_rt l).1 h]
    exact tells_ok _ w

set_option maxRecDepth 100000 in
set_option maxHeartbeats 8000000 in
theorem stands_any (F : Nat) (p : Option Addr) (cap b K : Nat) (l : List UInt8) (w : World) (hF : FeederAt F l w) (hB : Bytes b K p l w) (hn : p = none → l = []) (hlen : l.length ≤ 140737488351232) (hb : b ≤ w.heap.size) :
    Calls Try.prog 41 #[.pointer (some ⟨F, 0, none⟩), .slice p l.length cap] w fun e w' => e = .returned (.bool true) ∧ Below w.heap.size w w' := by
  have HT := Lib.hid (fun w' (h : Below w.heap.size w w') => bytes_text (w := w') (b := b) (K := K) cap (hB.keep (h.mono hb)) hn)
  have hsz : (⟨l.toArray⟩ : ByteArray).size ≤ 140737488351232 := by show l.toArray.size ≤ _; simp only [List.size_toArray]; omega
  have HW := Lib.hid (wrong_any ⟨l.toArray⟩ hsz)
  have HH := Lib.hid (refHeld_any ⟨l.toArray⟩ hsz)
  simp only at HW HH
  unfold HeldOut at HH
  obtain ⟨S, hS⟩ : ∃ S : ByteArray, ⟨l.toArray⟩ = S := ⟨_, rfl⟩
  rw [hS] at HT HW HH
  have hF' := hF
  obtain ⟨f0, f1, f2, held, taken, wrong, hblk, hst⟩ := hF'
  have hfacts := stands_facts hst
  have hlt := hblk.lt
  have HPl := Lib.hid (fun w h => place_any F f0 f1 f2 held taken wrong w h)
  have HHc := Lib.hid (fun w h => heldc_any F f0 f1 f2 held taken wrong w h)
  have HEn := Lib.hid (fun w h => end_any F l w h)
  have HTe := Lib.hid (tells_chk l)
  have HFA := Lib.hid (fun w' (h : Below w.heap.size w w') => (⟨f0, f1, f2, held, taken, wrong, hblk.keep h hlt, hst⟩ : FeederAt F l w'))
  have HBlk := Lib.hid hblk
  obtain ⟨no, hno⟩ : ∃ no, (wrongS l).1 = no := ⟨_, rfl⟩
  obtain ⟨pl, hpl⟩ : ∃ pl, (wrongS l).2 = pl := ⟨_, rfl⟩
  obtain ⟨v, hv⟩ : ∃ v, wrongAs (chk l 0 cur0) = v := ⟨_, rfl⟩
  rw [hno, hpl] at HW hfacts HTe
  rw [hv] at HTe HEn
  obtain ⟨n, hln⟩ : ∃ n, l.length = n := ⟨_, rfl⟩
  rw [hln] at hfacts HT ⊢
  clear hS hno hpl hv hln hlen hblk hst hF hB hn
  have t0 := HT.out w (Below.refl _ _)
  rcases hfacts with ⟨rfl, rfl, rfl⟩ | ⟨h1, rfl, tl, c, h2, rfl⟩
  · go_enter Try.func41, Try.ntmps41
    go_wp2_with fail
    refine (HW.out _).mono ?_
    rintro e w1 ⟨rfl, rfl⟩
    go_wp2_with fail
    refine (HH.out _).mono ?_
    rintro e w1 ⟨h, rfl, _, rfl⟩
    go_wp2_with fail
    refine (HPl.out _ HBlk.out).mono ?_
    rintro e w1 ⟨rfl, rfl⟩
    go_wp2_with fail
    refine (HHc.out _ HBlk.out).mono ?_
    rintro e w1 ⟨rfl, rfl⟩
    go_wp2_with fail
    refine (HEn.out _ (HFA.out _ (Below.refl _ _))).mono ?_
    rintro e w1 ⟨rfl, b1⟩
    go_wp2_with fail
    refine (HTe.out _).mono ?_
    rintro e w2 ⟨rfl, b2⟩
    have g2 := b1.trans (b2.mono b1.size)
    go_wp2_with fail
    refine (HEn.out _ (HFA.out _ g2)).mono ?_
    rintro e w3 ⟨rfl, b3⟩
    have g3 := g2.trans (b3.mono g2.size)
    go_wp2_with fail
    refine (HTe.out _).mono ?_
    rintro e w4 ⟨rfl, b4⟩
    have g4 := g3.trans (b4.mono g3.size)
    go_wp2_with fail
    go_ret
    exact ⟨rfl, g4⟩
  · have d1 : (((no : Nat) : Int) == 30) = false := by rw [beq_eq_false_iff_ne]; omega
    have HF2 := Lib.hid h2
    clear h2 h1
    go_enter Try.func41, Try.ntmps41
    go_wp2_with fail
    refine (HW.out _).mono ?_
    rintro e w1 ⟨rfl, rfl⟩
    go_wp2_with fail
    refine (HH.out _).mono ?_
    rintro e w1 ⟨h, rfl, hh, rfl⟩
    obtain rfl := hh tl c HF2.out
    clear hh
    go_wp2_with fail
    refine (HPl.out _ HBlk.out).mono ?_
    rintro e w1 ⟨rfl, rfl⟩
    go_wp2_with fail
    refine (HHc.out _ HBlk.out).mono ?_
    rintro e w1 ⟨rfl, rfl⟩
    go_wp2_with fail
    refine (HEn.out _ (HFA.out _ (Below.refl _ _))).mono ?_
    rintro e w1 ⟨rfl, b1⟩
    go_wp2_with fail
    refine (HTe.out _).mono ?_
    rintro e w2 ⟨rfl, b2⟩
    have g2 := b1.trans (b2.mono b1.size)
    go_wp2_with fail
    refine (HEn.out _ (HFA.out _ g2)).mono ?_
    rintro e w3 ⟨rfl, b3⟩
    have g3 := g2.trans (b3.mono g2.size)
    go_wp2_with fail
    refine (HTe.out _).mono ?_
    rintro e w4 ⟨rfl, b4⟩
    have g4 := g3.trans (b4.mono g3.size)
    go_wp2_with fail
    go_ret
    exact ⟨rfl, g4⟩
end Go.Proofs.Ytjbhehkkigopmaa
