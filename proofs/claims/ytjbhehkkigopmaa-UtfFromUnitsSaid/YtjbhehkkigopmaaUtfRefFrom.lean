/- The contract of affidavitref03's FromUnits. -/
import Derived.Test.YtjbhehkkigopmaaSameU
import Derived.Test.YtjbhehkkigopmaaUtfRefEnc
namespace Go.Proofs.Ytjbhehkkigopmaa
open Go.RowKit Go.Joins Go.Lib

/-- What the document's own reckoning hands back. -/
def refFromVal (U : List Nat) : Value :=
  if (rdU U).2 = U.length then .tuple #[.string ⟨(textOf (rdU U).1).toArray⟩, .int .i64 (-1)] else .tuple #[.string ⟨#[]⟩, .int .i64 ((rdU U).2 : Int)]
theorem refReadAt_end {U : List Nat} {cs : List Nat} (h : ReadAt U U.length cs) : refFromVal U = .tuple #[.string ⟨(textOf cs).toArray⟩, .int .i64 (-1)] := by
  obtain ⟨h1, h2, h3⟩ := h
  rw [List.drop_of_length_le (Nat.le_refl _), rdU_nil, List.append_nil, Nat.add_zero] at h3
  unfold refFromVal
  rw [h3, if_pos rfl]
theorem refReadAt_stop {U : List Nat} {i : Nat} {cs : List Nat} (h : ReadAt U i cs) (hi : i < U.length) (hs : stepU (U.drop i) = none) : refFromVal U = .tuple #[.string ⟨#[]⟩, .int .i64 (i : Int)] := by
  obtain ⟨h1, h2, h3⟩ := h
  rw [rdU_stop hs, List.append_nil, Nat.add_zero] at h3
  unfold refFromVal
  rw [h3, if_neg (by simp only; omega)]
theorem ownsRow_lit (w : World) : (w.alloc (.cells #[] 5)).ownsRow w.heap.size 5 1 (.slice (some ⟨w.heap.size, 0, none⟩) 0 0) 0 (byteCells []) :=
  ⟨rfl, .inr ⟨w.heap.size, 0, #[], rfl, Nat.le_refl _, (MapKept.heap_alloc w (.cells #[] 5)).1, Nat.le_refl _, by decide, rfl, rfl⟩⟩

set_option maxRecDepth 100000 in
set_option maxHeartbeats 8000000 in
theorem refFromUnits_any (q : Option Addr) (cap : Nat) (U : List Nat) (w : World) (hU : UnitRow w.heap.size q U w) (h16 : ∀ x ∈ U, x < 65536) (hlen : U.length ≤ 4294967296) :
    Calls Try.prog 34 #[.slice q U.length cap] w fun e w' => e = .returned (refFromVal U) ∧ Below w.heap.size w w' := by
  obtain ⟨i0, hi0, hz0, hz1, hz2⟩ := info_parts infoByte
  have HU := Lib.hid hU
  have H16 := Lib.hid h16
  have HR0 := Lib.hid (readAt_zero U)
  have HRE := Lib.hid (fun cs => @refReadAt_end U cs)
  have HRS := Lib.hid (fun i cs => @refReadAt_stop U i cs)
  have HRN := Lib.hid (fun i cs h c m => @readAt_next U i cs h c m)
  obtain ⟨FV, hFV⟩ : ∃ FV, refFromVal U = FV := ⟨_, rfl⟩
  rw [hFV] at HRE HRS ⊢
  obtain ⟨n, hn⟩ : ∃ n, U.length = n := ⟨_, rfl⟩
  have HN := Lib.hid hn
  rw [hn] at hlen HRE HRS ⊢
  clear hU h16 hFV hn
  have ho0 := Lib.hid (ownsRow_lit w)
  have hB0 := Lib.hid ((Below.refl w.heap.size w).alloc (Nat.le_refl _) (.cells #[] 5))
  go_enter Try.func34, Try.ntmps34
  go_wp2_with fail
  go_loopw [4, 5] (fun s v wr => ∃ (i : Nat) (cs : List Nat), v = .int .i64 i ∧ Hid (ReadAt U i cs) ∧ Hid (wr.ownsRow w.heap.size 5 1 s (textOf cs).length (byteCells (textOf cs))) ∧ Hid (Below w.heap.size w wr)) (fun _ v _ => n - (RowKit.intOf v).toNat)
  case atStart => exact ⟨0, [], rfl, HR0, ho0, hB0⟩
  case round =>
    obtain ⟨i, cs, rfl, hra, hbl, hbw⟩ := hrel
    have sb := hbw.out.size
    have hin := hra.out.1
    have hcsl := hra.out.2.1
    have htl := textOf_le cs
    rw [HN.out] at hin
    obtain ⟨k, hk⟩ : ∃ k, (textOf cs).length = k := ⟨_, rfl⟩
    have HK := Lib.hid hk
    rw [hk] at hbl htl
    clear hk
    have HSN : Hid (∀ c : Nat, (textOf (cs ++ [c])).length = k + (encodeRune (c : Int)).length ∧ byteCells (textOf (cs ++ [c])) = byteCells (textOf cs) ++ strCells ⟨(encodeRune (c : Int)).toArray⟩) := Lib.hid (fun c => by
      rw [textOf_snoc]
      refine ⟨by rw [List.length_append, HK.out], ?_⟩
      rw [strCells_eq]
      simp [byteCells])
    have HE4 : Hid (∀ c : Nat, (⟨(encodeRune (c : Int)).toArray⟩ : ByteArray).size = (encodeRune (c : Int)).length ∧ (encodeRune (c : Int)).length ≤ 4) := Lib.hid (fun c => ⟨List.size_toArray .., encodeRune_le _⟩)
    by_cases hlt : i < n
    · have hiU : i < U.length := by rw [HN.out]; exact hlt
      obtain ⟨pb, off, rfl, hpb, hcell⟩ := (HU.out.keep hbw.out) (fun e => by rw [e] at hiU; simp at hiU)
      have c0 := hcell i hiU
      have hdrop := List.drop_eq_getElem_cons hiU
      have h16 := H16.out U[i] (List.getElem_mem _)
      obtain ⟨x, hx⟩ : ∃ x, U[i] = x := ⟨_, rfl⟩
      rw [hx] at c0 hdrop h16
      obtain ⟨p, hp⟩ : ∃ p : Int, (x : Int) = p := ⟨_, rfl⟩
      have hp0 : 0 ≤ p := by omega
      have hp1 : p < 65536 := by omega
      rw [hp] at c0
      have HC := Lib.hid hcell
      have HD := Lib.hid hdrop
      have HP := Lib.hid hp
      clear hcell hdrop h16 hx hp
      by_cases hA : p < 55296 ∨ 57343 < p
      · have hs : Hid (ReadAt U (i + 1) (cs ++ [x])) := Lib.hid (HRN.out i cs hra.out x 1 (by rw [HD.out]; exact stepU_one _ (by have := HP.out; omega)))
        have hsn := HSN.out x
        have he4 := HE4.out x
        have HEN := Lib.hid (fun w => refEncode_yes p ⟨hp0, by omega⟩ w)
        rw [HP.out] at hsn he4
        obtain ⟨S, hS⟩ : ∃ S : ByteArray, ⟨(encodeRune p).toArray⟩ = S := ⟨_, rfl⟩
        rw [hS] at hsn he4 HEN
        obtain ⟨m, hm⟩ : ∃ m, (encodeRune p).length = m := ⟨_, rfl⟩
        rw [hm] at hsn he4
        obtain ⟨he4, hm4⟩ := he4
        have hsn1 := Lib.hid hsn.1
        have hsn2 := Lib.hid hsn.2
        clear hsn hS hm
        have hA2 : p < 55296 ∨ (¬ p < 55296 ∧ 57343 < p) := by omega
        rcases hA2 with hA2 | ⟨hA2, hA3⟩
        all_goals
          clear hA
          go_wp2_with fail
          refine (HEN.out _).mono ?_
          rintro e w1 ⟨rfl, hb1⟩
          have s1 := hb1.size
          have ho1 := ownsRow_below hbl.out hb1 (Nat.le_refl _)
          go_wp2_with (at_builtin; refine wpList_append_own_string _ rfl _ _ 22 9 rfl w.heap.size 5 i0 Try.underlying22 Try.underlying9 hi0 hz0 hz1 hz2 _ _ _ rfl ho1 S rfl ?c1 ?c2 ?c3 ?_)
          case c1 => unfold maxLen; omega
          case c2 => omega
          case c3 => omega
          intro v' w2 hown' hgrow _
          have hb2 := Lib.hid ((hbw.out.trans (hb1.mono sb)).grown hgrow (by omega) (fun k hk => (ho1.lt k hk).1))
          have ho2 : Hid (w2.ownsRow w.heap.size 5 1 v' (textOf (cs ++ [x])).length (byteCells (textOf (cs ++ [x])))) := Lib.hid (by rw [hsn1.out, hsn2.out]; exact hown')
          clear hgrow hown' ho1 hb1 c0
          go_wp2_with fail
          go_roundw
          case rel => exact ⟨i + 1, cs ++ [x], by go_num, hs, ho2, hb2⟩
          case measure => simp [RowKit.intOf]; omega
      · have hA1 : 55296 ≤ p := by omega
        have hA2 : p ≤ 57343 := by omega
        have hA1' : ¬ p < 55296 := by omega
        have hA2' : ¬ 57343 < p := by omega
        clear hA
        by_cases hlow : p < 56320
        · have hlow' : p ≤ 56319 := by omega
          have hlow2 : ¬ 56319 < p := by omega
          by_cases hend : i + 1 < n
          · have hiU2 : i + 1 < U.length := by rw [HN.out]; exact hend
            have c1 := HC.out (i + 1) hiU2
            have hdrop2 := List.drop_eq_getElem_cons hiU2
            have h162 := H16.out U[i + 1] (List.getElem_mem _)
            obtain ⟨y, hy⟩ : ∃ y, U[i + 1] = y := ⟨_, rfl⟩
            rw [hy] at c1 hdrop2 h162
            obtain ⟨q, hq⟩ : ∃ q : Int, (y : Int) = q := ⟨_, rfl⟩
            have hq0 : 0 ≤ q := by omega
            have hq1 : q < 65536 := by omega
            rw [hq] at c1
            have c1' : wr.cell? ⟨pb, off + i + 1, none⟩ = some (.int .u16 q) := c1
            have HD2 := Lib.hid hdrop2
            have HQ := Lib.hid hq
            clear hdrop2 h162 hy hq
            by_cases hq2 : q < 56320
            · have hs := Lib.hid (HRS.out i cs hra.out hlt (by rw [HD.out, HD2.out]; exact stepU_bad _ (by have := HP.out; omega) (by have := HP.out; omega) (by have := HQ.out; omega)))
              go_wp2_with fail
              go_ret2
              exact ⟨by rw [hs.out]; rfl, hbw.out⟩
            · have hq2' : 56320 ≤ q := by omega
              by_cases hq3 : q ≤ 57343
              · have hq3' : ¬ 57343 < q := by omega
                have hs : Hid (ReadAt U (i + 2) (cs ++ [65536 + (x - 55296) * 1024 + (y - 56320)])) := Lib.hid (HRN.out i cs hra.out _ 2 (by rw [HD.out, HD2.out]; exact stepU_two _ (by have := HP.out; omega) (by have := HP.out; omega) (by have := HQ.out; omega) (by have := HQ.out; omega)))
                have hcc : ((65536 + (x - 55296) * 1024 + (y - 56320) : Nat) : Int) = 65536 + (p - 55296) * 1024 + q - 56320 := by have := HP.out; have := HQ.out; omega
                obtain ⟨c, hc⟩ : ∃ c : Nat, 65536 + (x - 55296) * 1024 + (y - 56320) = c := ⟨_, rfl⟩
                rw [hc] at hs hcc
                have hsn := HSN.out c
                have he4 := HE4.out c
                rw [hcc] at hsn he4
                have hr0 : 0 ≤ 65536 + (p - 55296) * 1024 + q - 56320 := by omega
                have hr1 : 57343 < 65536 + (p - 55296) * 1024 + q - 56320 := by omega
                have hr2 : 65536 + (p - 55296) * 1024 + q - 56320 ≤ 1114111 := by omega
                have HEN := Lib.hid (fun w => refEncode_yes (65536 + (p - 55296) * 1024 + q - 56320) ⟨hr0, .inr ⟨hr1, hr2⟩⟩ w)
                obtain ⟨S, hS⟩ : ∃ S : ByteArray, ⟨(encodeRune (65536 + (p - 55296) * 1024 + q - 56320)).toArray⟩ = S := ⟨_, rfl⟩
                rw [hS] at hsn he4 HEN
                obtain ⟨m, hm⟩ : ∃ m, (encodeRune (65536 + (p - 55296) * 1024 + q - 56320)).length = m := ⟨_, rfl⟩
                rw [hm] at hsn he4
                obtain ⟨he4, hm4⟩ := he4
                have hsn1 := Lib.hid hsn.1
                have hsn2 := Lib.hid hsn.2
                clear hsn hS hm hcc hc hr0 hr1 hr2
                have hp3 : 0 ≤ p - 55296 := by omega
                have hp4 : p - 55296 < 1024 := by omega
                go_wp2_with fail
                refine (HEN.out _).mono ?_
                rintro e w1 ⟨rfl, hb1⟩
                have s1 := hb1.size
                have ho1 := ownsRow_below hbl.out hb1 (Nat.le_refl _)
                go_wp2_with (at_builtin; refine wpList_append_own_string _ rfl _ _ 22 9 rfl w.heap.size 5 i0 Try.underlying22 Try.underlying9 hi0 hz0 hz1 hz2 _ _ _ rfl ho1 S rfl ?e1 ?e2 ?e3 ?_)
                case e1 => unfold maxLen; omega
                case e2 => omega
                case e3 => omega
                intro v' w2 hown' hgrow _
                have hb2 := Lib.hid ((hbw.out.trans (hb1.mono sb)).grown hgrow (by omega) (fun k hk => (ho1.lt k hk).1))
                have ho2 : Hid (w2.ownsRow w.heap.size 5 1 v' (textOf (cs ++ [c])).length (byteCells (textOf (cs ++ [c])))) := Lib.hid (by rw [hsn1.out, hsn2.out]; exact hown')
                clear hgrow hown' ho1 hb1 c0 c1 c1'
                go_wp2_with fail
                go_roundw
                case rel => exact ⟨i + 2, _, by go_num, hs, ho2, hb2⟩
                case measure => simp [RowKit.intOf]; omega
              · have hs := Lib.hid (HRS.out i cs hra.out hlt (by rw [HD.out, HD2.out]; exact stepU_bad _ (by have := HP.out; omega) (by have := HP.out; omega) (by have := HQ.out; omega)))
                have hq3' : 57343 < q := by omega
                go_wp2_with fail
                go_ret2
                exact ⟨by rw [hs.out]; rfl, hbw.out⟩
          · have hs := Lib.hid (HRS.out i cs hra.out hlt (by rw [HD.out, List.drop_of_length_le (by rw [HN.out]; omega)]; exact stepU_end (by have := HP.out; omega) (by have := HP.out; omega)))
            go_wp2_with fail
            go_ret2
            exact ⟨by rw [hs.out]; rfl, hbw.out⟩
        · have hs := Lib.hid (HRS.out i cs hra.out hlt (by rw [HD.out]; exact stepU_low _ (by have := HP.out; omega) (by have := HP.out; omega)))
          have hlow' : 56319 < p := by omega
          go_wp2_with fail
          go_ret2
          exact ⟨by rw [hs.out]; rfl, hbw.out⟩
    · obtain rfl : i = n := by omega
      have hs := Lib.hid (HRE.out cs hra.out)
      have hcv := owns_text hbl.out HK.out
      go_wp2_with fail
      go_ret2
      exact ⟨by rw [hs.out]; rfl, hbw.out⟩
end Go.Proofs.Ytjbhehkkigopmaa
