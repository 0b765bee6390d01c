/- The contract of utf's FromUnits. -/
import Derived.Test.YtjbhehkkigopmaaUtfFromP
import Derived.Test.YtjbhehkkigopmaaUtfBld
namespace Go.Proofs.Ytjbhehkkigopmaa
open Go.RowKit Go.Joins Go.Lib

/-- A slice that reads as a row of units, below block b. -/
def UnitRow (b : Nat) (p : Option Addr) (U : List Nat) (w : World) : Prop :=
  U ≠ [] → ∃ pb off, p = some ⟨pb, off, none⟩ ∧ pb < b ∧ ∀ j, (h : j < U.length) → w.cell? ⟨pb, off + j, none⟩ = some (.int .u16 (U[j] : Int))
theorem UnitRow.keep {b : Nat} {p : Option Addr} {U : List Nat} {w w' : World} (h : UnitRow b p U w) (hb : Below b w w') : UnitRow b p U w' := fun hne => by
  obtain ⟨pb, off, h1, h2, h3⟩ := h hne
  exact ⟨pb, off, h1, h2, fun j hj => (hb.cell (p := ⟨pb, off + j, none⟩) h2).trans (h3 j hj)⟩

/-- What FromUnits hands back. -/
def fromVal (U : List Nat) : Value :=
  if (rdU U).2 = U.length then .tuple #[.string ⟨(textOf (rdU U).1).toArray⟩, .nilIface] else .tuple #[.string ⟨#[]⟩, .iface 81 (.agg #[.int .i64 32, .int .i64 ((rdU U).2 : Int)])]

theorem fresh_F (w : World) : IsBuilderF 100 5 w.heap.size w.heap.size [] (w.alloc (.cells #[.pointer none, .slice none 0 0] 100)) := by
  rcases fresh_isBuilder 100 5 w with h | h
  · exact .inl (BuilderAtF.of h)
  · exact .inr (BuilderAtF.of h)

/-- The reader at a place of a row. -/
def ReadAt (U : List Nat) (i : Nat) (cs : List Nat) : Prop := i ≤ U.length ∧ cs.length ≤ i ∧ rdU U = (cs ++ (rdU (U.drop i)).1, i + (rdU (U.drop i)).2)
theorem readAt_zero (U : List Nat) : ReadAt U 0 [] := ⟨Nat.zero_le _, Nat.zero_le _, by simp⟩
theorem readAt_next {U : List Nat} {i : Nat} {cs : List Nat} (h : ReadAt U i cs) {c m : Nat} (hs : stepU (U.drop i) = some (c, m)) : ReadAt U (i + m) (cs ++ [c]) := by
  obtain ⟨h1, h2, h3⟩ := h
  obtain ⟨k1, k2⟩ := stepU_pos hs
  rw [List.length_drop] at k2
  refine ⟨by omega, by simp; omega, ?_⟩
  rw [rdU_ok hs, List.drop_drop] at h3
  rw [h3, List.append_assoc, Nat.add_assoc]
  rfl
theorem readAt_end {U : List Nat} {cs : List Nat} (h : ReadAt U U.length cs) : fromVal U = .tuple #[.string ⟨(textOf cs).toArray⟩, .nilIface] := by
  obtain ⟨h1, h2, h3⟩ := h
  rw [List.drop_of_length_le (Nat.le_refl _), rdU_nil, List.append_nil, Nat.add_zero] at h3
  unfold fromVal
  rw [h3, if_pos rfl]
theorem readAt_stop {U : List Nat} {i : Nat} {cs : List Nat} (h : ReadAt U i cs) (hi : i < U.length) (hs : stepU (U.drop i) = none) : fromVal U = .tuple #[.string ⟨#[]⟩, .iface 81 (.agg #[.int .i64 32, .int .i64 (i : Int)])] := by
  obtain ⟨h1, h2, h3⟩ := h
  rw [rdU_stop hs, List.append_nil, Nat.add_zero] at h3
  unfold fromVal
  rw [h3, if_neg (by simp only; omega)]

set_option maxRecDepth 100000 in
set_option maxHeartbeats 8000000 in
theorem fromUnits_any (q : Option Addr) (cap : Nat) (U : List Nat) (w : World) (hU : UnitRow w.heap.size q U w) (h16 : ∀ x ∈ U, x < 65536) (hlen : U.length ≤ 4294967296) :
    Calls Try.prog 33 #[.slice q U.length cap] w fun e w' => e = .returned (fromVal U) ∧ Below w.heap.size w w' := by
  have HU := Lib.hid hU
  have H16 := Lib.hid h16
  have HR0 := Lib.hid (readAt_zero U)
  have HRE := Lib.hid (fun cs => @readAt_end U cs)
  have HRS := Lib.hid (fun i cs => @readAt_stop U i cs)
  have HRN := Lib.hid (fun i cs h c m => @readAt_next U i cs h c m)
  obtain ⟨FV, hFV⟩ : ∃ FV, fromVal U = FV := ⟨_, rfl⟩
  rw [hFV] at HRE HRS ⊢
  obtain ⟨n, hn⟩ : ∃ n, U.length = n := ⟨_, rfl⟩
  have HN := Lib.hid hn
  rw [hn] at hlen HRE HRS ⊢
  clear hU h16 hFV hn
  go_enter Try.func33, Try.ntmps33
  go_wp2_with fail
  have hb0 := Lib.hid (fresh_F w)
  have hB0 := Lib.hid ((Below.refl w.heap.size w).alloc (Nat.le_refl _) (.cells #[.pointer none, .slice none 0 0] 100))
  go_loopw [5] (fun v wr => ∃ (i : Nat) (cs : List Nat), v = .int .i64 i ∧ Hid (ReadAt U i cs) ∧ Hid (IsBuilderF 100 5 w.heap.size w.heap.size (byteCells (textOf cs)) wr) ∧ Hid (Below w.heap.size w wr)) (fun v _ => n - (RowKit.intOf v).toNat)
  case atStart => exact ⟨0, [], rfl, HR0, hb0, hB0⟩
  case round =>
    obtain ⟨i, cs, rfl, hra, hbl, hbw⟩ := hrel
    have sb := hbw.out.size
    have hin := hra.out.1
    have hcsl := hra.out.2.1
    have htl := textOf_le cs
    rw [HN.out] at hin
    by_cases hlt : i < n
    · have hiU : i < U.length := by rw [HN.out]; exact hlt
      obtain ⟨pb, off, rfl, hpb, hcell⟩ := (HU.out.keep hbw.out) (fun e => by rw [e] at hiU; simp at hiU)
      have c0 := hcell i hiU
      have hdrop := List.drop_eq_getElem_cons hiU
      have h16 := H16.out U[i] (List.getElem_mem _)
      obtain ⟨x, hx⟩ : ∃ x, U[i] = x := ⟨_, rfl⟩
      rw [hx] at c0 hdrop h16
      obtain ⟨p, hp⟩ : ∃ p : Int, (x : Int) = p := ⟨_, rfl⟩
      have hp0 : 0 ≤ p := by omega
      have hp1 : p < 65536 := by omega
      rw [hp] at c0
      have HC := Lib.hid hcell
      have HD := Lib.hid hdrop
      have HP := Lib.hid hp
      clear hcell hdrop h16 hx hp
      by_cases hA : p < 55296 ∨ 57343 < p
      · have hs : Hid (ReadAt U (i + 1) (cs ++ [x])) := Lib.hid (HRN.out i cs hra.out x 1 (by rw [HD.out]; exact stepU_one _ (by have := HP.out; omega)))
        have hcv : byteCells (textOf cs) ++ runeCells p = byteCells (textOf (cs ++ [x])) := by rw [textOf_snoc, HP.out, ← byteCells_encodeRune]; simp [byteCells]
        have HWR := Lib.hid (fun w1 h hB => writeRune_any w.heap.size w.heap.size (byteCells (textOf cs)) p (by omega) (by omega) w1 h (by rw [byteCells_length]; omega) hB)
        rw [hcv] at HWR
        clear hcv
        rcases hA with hA | hA
        · go_wp2_with fail
          refine (HWR.out _ hbl.out sb).mono ?_
          rintro e w1 ⟨rfl, hbl1, hb1, _⟩
          have hb2 := Lib.hid (hbw.out.trans hb1)
          have hbl2 := Lib.hid hbl1
          clear hbl1 hb1 c0
          go_wp2_with fail
          go_roundw
          case rel => exact ⟨i + 1, cs ++ [x], by go_num, hs, hbl2, hb2⟩
          case measure => simp [RowKit.intOf]; omega
        · have hA2 : ¬ p < 55296 := by omega
          go_wp2_with fail
          refine (HWR.out _ hbl.out sb).mono ?_
          rintro e w1 ⟨rfl, hbl1, hb1, _⟩
          have hb2 := Lib.hid (hbw.out.trans hb1)
          have hbl2 := Lib.hid hbl1
          clear hbl1 hb1 c0
          go_wp2_with fail
          go_roundw
          case rel => exact ⟨i + 1, cs ++ [x], by go_num, hs, hbl2, hb2⟩
          case measure => simp [RowKit.intOf]; omega
      · have hA1 : 55296 ≤ p := by omega
        have hA2 : p ≤ 57343 := by omega
        have hA1' : ¬ p < 55296 := by omega
        have hA2' : ¬ 57343 < p := by omega
        clear hA
        by_cases hlow : p < 56320
        · by_cases hend : i + 1 < n
          · have hiU2 : i + 1 < U.length := by rw [HN.out]; exact hend
            have c1 := HC.out (i + 1) hiU2
            have hdrop2 := List.drop_eq_getElem_cons hiU2
            have h162 := H16.out U[i + 1] (List.getElem_mem _)
            obtain ⟨y, hy⟩ : ∃ y, U[i + 1] = y := ⟨_, rfl⟩
            rw [hy] at c1 hdrop2 h162
            obtain ⟨q, hq⟩ : ∃ q : Int, (y : Int) = q := ⟨_, rfl⟩
            have hq0 : 0 ≤ q := by omega
            have hq1 : q < 65536 := by omega
            rw [hq] at c1
            have c1' : wr.cell? ⟨pb, off + i + 1, none⟩ = some (.int .u16 q) := c1
            have HD2 := Lib.hid hdrop2
            have HQ := Lib.hid hq
            clear hdrop2 h162 hy hq
            by_cases hq2 : q < 56320
            · have hs := Lib.hid (HRS.out i cs hra.out hlt (by rw [HD.out, HD2.out]; exact stepU_bad _ (by have := HP.out; omega) (by have := HP.out; omega) (by have := HQ.out; omega)))
              have hq2' : ¬ 56320 ≤ q := by omega
              go_wp2_with fail
              go_ret2
              exact ⟨by rw [hs.out]; rfl, hbw.out⟩
            · have hq2' : 56320 ≤ q := by omega
              by_cases hq3 : q ≤ 57343
              · have hs : Hid (ReadAt U (i + 2) (cs ++ [65536 + (x - 55296) * 1024 + (y - 56320)])) := Lib.hid (HRN.out i cs hra.out _ 2 (by rw [HD.out, HD2.out]; exact stepU_two _ (by have := HP.out; omega) (by have := HP.out; omega) (by have := HQ.out; omega) (by have := HQ.out; omega)))
                have hcc : ((65536 + (x - 55296) * 1024 + (y - 56320) : Nat) : Int) = 65536 + (p - 55296) * 1024 + q - 56320 := by have := HP.out; have := HQ.out; omega
                have hcv : byteCells (textOf cs) ++ runeCells (65536 + (p - 55296) * 1024 + q - 56320) = byteCells (textOf (cs ++ [65536 + (x - 55296) * 1024 + (y - 56320)])) := by rw [textOf_snoc, hcc, ← byteCells_encodeRune]; simp [byteCells]
                have HWR := Lib.hid (fun w1 h hB => writeRune_any w.heap.size w.heap.size (byteCells (textOf cs)) (65536 + (p - 55296) * 1024 + q - 56320) (by omega) (by omega) w1 h (by rw [byteCells_length]; omega) hB)
                rw [hcv] at HWR
                clear hcv hcc
                have hp3 : 0 ≤ p - 55296 := by omega
                have hp4 : p - 55296 < 1024 := by omega
                go_wp2_with fail
                refine (HWR.out _ hbl.out sb).mono ?_
                rintro e w1 ⟨rfl, hbl1, hb1, _⟩
                have hb2 := Lib.hid (hbw.out.trans hb1)
                have hbl2 := Lib.hid hbl1
                clear hbl1 hb1 c0 c1 c1'
                go_wp2_with fail
                go_roundw
                case rel => exact ⟨i + 2, _, by go_num, hs, hbl2, hb2⟩
                case measure => simp [RowKit.intOf]; omega
              · have hs := Lib.hid (HRS.out i cs hra.out hlt (by rw [HD.out, HD2.out]; exact stepU_bad _ (by have := HP.out; omega) (by have := HP.out; omega) (by have := HQ.out; omega)))
                go_wp2_with fail
                go_ret2
                exact ⟨by rw [hs.out]; rfl, hbw.out⟩
          · have hs := Lib.hid (HRS.out i cs hra.out hlt (by rw [HD.out, List.drop_of_length_le (by rw [HN.out]; omega)]; exact stepU_end (by have := HP.out; omega) (by have := HP.out; omega)))
            go_wp2_with fail
            go_ret2
            exact ⟨by rw [hs.out]; rfl, hbw.out⟩
        · have hs := Lib.hid (HRS.out i cs hra.out hlt (by rw [HD.out]; exact stepU_low _ (by have := HP.out; omega) (by have := HP.out; omega)))
          go_wp2_with fail
          go_ret2
          exact ⟨by rw [hs.out]; rfl, hbw.out⟩
    · obtain rfl : i = n := by omega
      have hs := Lib.hid (HRE.out cs hra.out)
      go_wp2_with fail
      refine (Go.Proofs.Try.Builder_String_any_f w.heap.size w.heap.size _ wr hbl.out sb).mono ?_
      rintro e w1 ⟨rfl, _, hb1⟩
      have hb2 := Lib.hid (hbw.out.trans hb1)
      clear hb1
      go_wp2_with fail
      go_ret2
      exact ⟨by rw [hs.out]; rfl, hb2.out⟩
end Go.Proofs.Ytjbhehkkigopmaa
