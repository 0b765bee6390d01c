/- ShaTaken, walked. -/
import Derived.Test.YtphgaemmbdogmaaDoorShaTab
import Derived.Test.YtphgaemmbdogmaaDoorShaResume
import Derived.Test.YtphgaemmbdogmaaDoorShaCmp
import Derived.Test.YtphgaemmbdogmaaDoorConcat
import Derived.Test.YtphgaemmbdogmaaDoorHeld
namespace Go.Proofs.YtphgaemmbdogmaaDoor
open Go.ChangeShapes Go.WideShapes Go.ChangeAt Go.RowKit Go.Lib

theorem bytes_in {b K : Nat} {p : Option Addr} {l : List UInt8} {w : World} (hB : Bytes b K p l w) : Lib.BytesIn w p l.length (bI l) := fun hn => by
  obtain ⟨pb, off, hp, _, _, hc⟩ := hB (by intro e; rw [e] at hn; simp at hn)
  refine ⟨pb, off, hp, fun i hi => ?_⟩
  rw [hc i hi]
  simp [bI, List.getD_eq_getElem?_getD, List.getElem?_eq_getElem hi]
theorem equal_same (b K b' K' : Nat) (p q : Option Addr) (l : List UInt8) (c d : Nat) (w : World) (hB : Bytes b K p l w) (hC : Bytes b' K' q l w) :
    Calls Tryd.prog 41 #[.slice p l.length c, .slice q l.length d] w fun e w' => e = .returned (.bool true) ∧ w' = w := by
  have h := Go.Proofs.Tryd.bytes_Equal_all p q l.length c l.length d (bI l) (bI l) w (bI_length l) (bI_length l) (bytes_in hB) (bytes_in hC)
  simpa using h
theorem parts_K {w : World} {B K : Nat} {p : Option Addr} {N : Nat} {P : Nat → Option Addr} {C : Nat → Nat} {L : Nat → List UInt8} {b0 : Nat} (h : Parts b0 p N P C L w) (hb : b0 ≤ B) (hk : ∀ pb, pb < b0 → (∃ o, p = some ⟨pb, o, none⟩) → pb ≠ K) (hK : ∀ i, i < N → Bytes B K (P i) (L i) w) : PartsK B K p N P C L w :=
  ⟨fun hN => let ⟨pb, off, hp, h1, h2⟩ := h.1 hN; ⟨pb, off, hp, by omega, hk pb h1 ⟨off, hp⟩, h2⟩, fun i hi => let ⟨_, h2, h3⟩ := h.2 i hi; ⟨hK i hi, h2, h3⟩⟩
theorem owns_cap {w : World} {B n c : Nat} {q : Option Addr} {xs : List Value} (h : w.ownsRow B 5 1 (.slice q n c) n xs) : n ≤ c := by
  rcases h.2 with ⟨h1, h0⟩ | ⟨g, cap, cur, h1, _, _, hc, _⟩
  · omega
  · simp only [Value.slice.injEq] at h1
    omega
/-- One part, for a hash that lies elsewhere. -/
theorem parts_oneK {w : World} {g b K : Nat} {p : Option Addr} {l : List UInt8} {c : Nat} (hc : w.cell? ⟨g, 0, none⟩ = some (.slice p l.length c)) (hg : g < b) (hgK : g ≠ K) (hB : Bytes b K p l w) (hl : l.length ≤ c) (hm : l.length ≤ 140737488351232) :
    PartsK b K (some ⟨g, 0, none⟩) 1 (fun _ => p) (fun _ => c) (fun _ => l) w :=
  ⟨fun _ => ⟨g, 0, rfl, hg, hgK, fun i hi => by obtain rfl : i = 0 := by omega
                                                exact hc⟩, fun _ _ => ⟨hB, hl, hm⟩⟩
theorem wpList_world {P : Program} {ops : Array Oper} {Q : Exit → Act → World → Prop} {l : List Oper} {a : Act} {w v : World} (h : w = v) (hc : wpList P ops Q l a v) : wpList P ops Q l a w := h ▸ hc
theorem heap_last (w : World) (o : Obj) : (w.alloc o).heap[w.heap.size]? = some o := (MapKept.heap_alloc w o).1

/-- Two parts, in a block of their own. -/
def pairF {α : Type} (x y : α) (i : Nat) : α := if i = 0 then x else y
theorem cat_two (l m : List UInt8) : cat (pairF l m) 2 = l ++ m := rfl
theorem parts_two {w : World} {g b : Nat} {p q : Option Addr} {l m : List UInt8} {c d : Nat} (h0 : w.cell? ⟨g, 0, none⟩ = some (.slice p l.length c)) (h1 : w.cell? ⟨g, 1, none⟩ = some (.slice q m.length d)) (hg : g < b)
    (hB : Bytes b b p l w) (hC : Bytes b b q m w) (hl : l.length ≤ c) (hm : m.length ≤ d) (hl2 : l.length ≤ 140737488351232) (hm2 : m.length ≤ 140737488351232) :
    Parts b (some ⟨g, 0, none⟩) 2 (pairF p q) (pairF c d) (pairF l m) w :=
  ⟨fun _ => ⟨g, 0, rfl, hg, fun i hi => by
      obtain rfl | rfl : i = 0 ∨ i = 1 := by omega
      · exact h0
      · exact h1⟩, fun i hi => by
      obtain rfl | rfl : i = 0 ∨ i = 1 := by omega
      · exact ⟨hB, hl, hl2⟩
      · exact ⟨hC, hm, hm2⟩⟩
theorem sum_one (a : Option Addr) (c : Nat) (l : List UInt8) (W : World) (hT : Tab W) (hB : Bytes W.heap.size W.heap.size a l W) (hc : l.length ≤ c) (hm : l.length ≤ 140737488351232) (w : World) (hw : Below W.heap.size W w) :
    Calls Tryd.prog 17 #[.slice (some ⟨w.heap.size, 0, none⟩) 1 1] (w.alloc (.cells #[.slice a l.length c] 29)) fun e w' => e = .returned (dig (sumI firstI 0 l)) ∧ Below w.heap.size w w' := by
  have hg : Below W.heap.size W (w.alloc (.cells #[.slice a l.length c] 29)) := hw.alloc hw.size _
  have hs := hg.size
  refine (sums_any _ 1 1 (by decide) (fun _ => a) (fun _ => c) (fun _ => l) _ (hT.below hg) (parts_one (by rw [cell_of_heap (heap_last _ _)]; rfl) (by simp) ((hB.keep hg).at hs hs) hc hm)).mono ?_
  rintro e w' ⟨rfl, hb⟩
  refine ⟨by rw [cat_one]; rfl, ?_⟩
  exact ((Below.refl _ w).alloc (Nat.le_refl _) _).trans (hb.mono (by simp))
theorem sum_two (a : Option Addr) (c : Nat) (l : List UInt8) (a2 : Option Addr) (c2 : Nat) (l2 : List UInt8) (W : World) (hT : Tab W) (hB : Bytes W.heap.size W.heap.size a l W) (hc : l.length ≤ c) (hm : l.length ≤ 140737488351232)
    (hB2 : Bytes W.heap.size W.heap.size a2 l2 W) (hc2 : l2.length ≤ c2) (hm2 : l2.length ≤ 140737488351232) (w : World) (hw : Below W.heap.size W w) :
    Calls Tryd.prog 17 #[.slice (some ⟨w.heap.size, 0, none⟩) 2 2] (w.alloc (.cells #[.slice a l.length c, .slice a2 l2.length c2] 29)) fun e w' => e = .returned (dig (sumI firstI 0 (l ++ l2))) ∧ Below w.heap.size w w' := by
  have hg : Below W.heap.size W (w.alloc (.cells #[.slice a l.length c, .slice a2 l2.length c2] 29)) := hw.alloc hw.size _
  have hs := hg.size
  refine (sums_any _ 2 2 (by decide) (pairF a a2) (pairF c c2) (pairF l l2) _ (hT.below hg) (parts_two (by rw [cell_of_heap (heap_last _ _)]; rfl) (by rw [cell_of_heap (heap_last _ _)]; rfl) (by simp) ((hB.keep hg).at hs hs) ((hB2.keep hg).at hs hs) hc hc2 hm hm2)).mono ?_
  rintro e w' ⟨rfl, hb⟩
  refine ⟨by rw [cat_two]; rfl, ?_⟩
  exact ((Below.refl _ w).alloc (Nat.le_refl _) _).trans (hb.mono (by simp))
theorem sum_none (W : World) (hT : Tab W) (w : World) (hw : Below W.heap.size W w) :
    Calls Tryd.prog 17 #[.slice none 0 0] w fun e w' => e = .returned (dig (sumI firstI 0 [])) ∧ Below w.heap.size w w' :=
  sums_any none 0 0 (by decide) (fun _ => none) (fun _ => 0) (fun _ => []) w (hT.below hw) ⟨fun h => absurd h (by decide), fun i hi => absurd hi (by omega)⟩

set_option maxRecDepth 100000 in
set_option maxHeartbeats 16000000 in
theorem shaTaken_walk (a : Option Addr) (c : Nat) (l : List UInt8) (a2 : Option Addr) (c2 : Nat) (l2 : List UInt8) (W : World) (hT : Tab W) (hn : a = none → l = []) (hB : Bytes W.heap.size W.heap.size a l W) (hm : l.length ≤ 140737488351232) (hc : l.length ≤ c)
    (hn2 : a2 = none → l2 = []) (hB2 : Bytes W.heap.size W.heap.size a2 l2 W) (hm2 : l2.length ≤ 140737488351232) (hc2 : l2.length ≤ c2) :
    Calls Tryd.prog 10 #[.slice a l.length c, .slice a2 l2.length c2] W fun e w' => e = .returned (.bool true) ∧ Below W.heap.size W w' := by
  have HT := Lib.hid hT
  have HBa := Lib.hid hB
  have HBb := Lib.hid hB2
  have HWorks := Lib.hid (fun w (h : Tab w) => works_any w h)
  have HNew := Lib.hid (fun w => new_any w)
  obtain ⟨n, hnn⟩ : ∃ n, l.length = n := ⟨_, rfl⟩
  obtain ⟨n2, hnn2⟩ : ∃ n, l2.length = n := ⟨_, rfl⟩
  have HL := Lib.hid hnn
  have HL2 := Lib.hid hnn2
  rw [hnn] at hm hc ⊢
  rw [hnn2] at hm2 hc2 ⊢
  have HM := Lib.hid hm
  have HM2 := Lib.hid hm2
  have HCc := Lib.hid hc
  have HCc2 := Lib.hid hc2
  clear hT hB hB2 hn hn2 hnn hnn2
  go_enter Tryd.func10, Tryd.ntmps10
  go_wp2_with fail
  refine (HNew.out _).mono ?_
  rintro e w1 ⟨B, rfl, hBl, hTk1, hb1⟩
  have HBl := Lib.hid hBl
  have HTk1 := Lib.hid hTk1
  have HG1 := Lib.hid hb1
  clear hBl hTk1 hb1
  go_wp2_with fail
  obtain ⟨v2, hv2⟩ : ∃ v, v = w1.alloc (.cells #[Value.slice a n c] 29) := ⟨_, rfl⟩
  have HG2 : Hid (Below W.heap.size W v2) := Lib.hid (by rw [hv2]; exact HG1.out.alloc HG1.out.size _)
  have HZ2 : Hid (v2.heap.size = w1.heap.size + 1) := Lib.hid (by rw [hv2]; simp)
  have HTk2 : Hid (Took B firstI 0 [] v2) := Lib.hid (by rw [hv2]; exact HTk1.out.alloc _)
  have HWrite := Lib.hid (write_ok B firstI 0 [] (some ⟨w1.heap.size, 0, none⟩) 1 1 (by decide) (fun _ => a) (fun _ => c) (fun _ => l) v2 (HT.out.below HG2.out) HTk2.out (by
    have hz := HZ2.out
    have hlt := HTk1.out.lt
    have hs := HG1.out.size
    have hBl := HBl.out
    refine parts_oneK (by rw [hv2, cell_of_heap (heap_last _ _), HL.out]; rfl) (by omega) (by omega) ?_ (by rw [HL.out]; exact HCc.out) (by rw [HL.out]; exact HM.out)
    intro hne
    obtain ⟨pb, off, hp, h1, h2, h3⟩ := (HBa.out.keep HG2.out) hne
    exact ⟨pb, off, hp, by omega, by omega, h3⟩) (by rw [cat_one, HL.out]; have := HM.out; simp; omega))
  rw [cat_one, List.nil_append] at HWrite
  rw [← hv2]
  clear hv2
  refine HWrite.out.mono ?_
  rintro e w3 ⟨rfl, hTk3, hb3⟩
  have HTk3 := Lib.hid hTk3
  have HG3 : Hid (Below W.heap.size W w3) := Lib.hid (HG2.out.trans (hb3.below HBl.out HG2.out.size))
  have HMid := Lib.hid (took_tells hTk3 (by rw [HL.out]; have := HM.out; omega))
  clear hTk3 hb3
  obtain ⟨k, hk⟩ : ∃ k, l.length / 64 = k := ⟨_, rfl⟩
  obtain ⟨d, hd⟩ : ∃ d, l.length % 64 = d := ⟨_, rfl⟩
  have HK : Hid (n / 64 = k) := Lib.hid (by rw [← hk, HL.out])
  have HD : Hid (n % 64 = d) := Lib.hid (by rw [← hd, HL.out])
  have HKl := Lib.hid hk
  have HDl := Lib.hid hd
  rw [hk, hd] at HMid
  clear hk hd
  go_wp2_with fail
  refine HMid.out.mono ?_
  rintro e w4 ⟨vm, rfl, ho4, hb4⟩
  obtain ⟨t, ht⟩ : ∃ t, l.drop (64 * k) = t := ⟨_, rfl⟩
  rw [ht] at ho4
  have htd : t.length = d := by rw [← ht, List.length_drop, HL.out]; have := HK.out; have := HD.out; omega
  obtain ⟨q, cq, rfl, -, hby4⟩ := owns_bytes ho4 htd
  have hcq := owns_cap ho4
  have HTd := Lib.hid htd
  have HTt := Lib.hid ht
  have HBy4 := Lib.hid hby4
  have HG4 : Hid (Below W.heap.size W w4) := Lib.hid (HG3.out.trans (hb4.mono HG3.out.size))
  have HTk4 : Hid (Took B firstI 0 l w4) := Lib.hid (HTk3.out.keep hb4 HTk3.out.lt)
  clear ho4 hby4 hb4 htd ht
  have hsl : (blocksI k firstI l).length = 8 := blocksI_length _ _ _
  obtain ⟨st, hst⟩ : ∃ st, blocksI k firstI l = st := ⟨_, rfl⟩
  have HSt := Lib.hid hst
  rw [hst] at hsl
  have HSl := Lib.hid hsl
  unfold midV
  rw [hst]
  have hX8 : (st.map (Value.int .u32) ++ [Value.int .u64 (k : Int), Value.slice q d cq]).toArray[8]? = some (.int .u64 (k : Int)) := by
    rw [List.getElem?_toArray, List.getElem?_append_right (by simp [hsl])]
    simp [hsl]
  have hX9 : (st.map (Value.int .u32) ++ [Value.int .u64 (k : Int), Value.slice q d cq]).toArray[9]? = some (.slice q d cq) := by
    rw [List.getElem?_toArray, List.getElem?_append_right (by simp [hsl])]
    simp [hsl]
  have hX1 := mid_one st (k : Int) q d cq
  have hXs : (st.map (Value.int .u32) ++ [Value.int .u64 (k : Int), Value.slice q d cq]).toArray.size = 10 := by simp [hsl]
  have HRes := Lib.hid (fun w hb => resume_any st hsl k (by have := HK.out; have := HM.out; omega) q t (by rw [HTd.out]; have := HD.out; omega) cq w hb)
  rw [HTd.out] at HRes
  unfold midV at HRes
  obtain ⟨X, hX⟩ : ∃ X, (st.map (Value.int .u32) ++ [Value.int .u64 (k : Int), Value.slice q d cq]).toArray = X := ⟨_, rfl⟩
  rw [hX] at hX8 hX9 hX1 hXs HRes ⊢
  have HX8 := Lib.hid hX8
  have HX9 := Lib.hid hX9
  have HX1 := Lib.hid hX1
  have HXi : Hid ((Tryd.prog.info? 42).map (·.size) = some X.size) := Lib.hid (by rw [hXs]; exact sizeMid)
  have HXo : Hid (zeroMid.toArray.size = X.size) := Lib.hid (by rw [hXs]; rfl)
  obtain ⟨v5, hv5⟩ : ∃ v, v = w4.alloc (.cells X 42) := ⟨_, rfl⟩
  have HV5 := Lib.hid ((World.setRow_alloc_new w4 zeroMid.toArray X 42).trans hv5.symm)
  have HM5 : Hid (v5.heap[w4.heap.size]? = some (.cells X 42 (0, 0))) := Lib.hid (by rw [hv5]; exact heap_last _ _)
  have HG5 : Hid (Below W.heap.size W v5) := Lib.hid (by rw [hv5]; exact HG4.out.alloc HG4.out.size _)
  have HZ5 : Hid (v5.heap.size = w4.heap.size + 1) := Lib.hid (by rw [hv5]; simp)
  have HTk5 : Hid (Took B firstI 0 l v5) := Lib.hid (by rw [hv5]; exact HTk4.out.alloc _)
  have HBy5 : Hid (Bytes v5.heap.size v5.heap.size q t v5) := Lib.hid (by
    have h : Bytes w4.heap.size w4.heap.size q t v5 := HBy4.out.keep (by rw [hv5]; exact (Below.refl _ _).alloc (Nat.le_refl _) _)
    exact h.at (by have := HZ5.out; omega) (by have := HZ5.out; omega))
  clear hX8 hX9 hX1 hXs hX hv5 hst hsl hcq
  have HMl : Hid (((w4.alloc (.cells zeroMid.toArray 42)).setRow w4.heap.size X).heap[w4.heap.size]? = some (.cells X 42 (0, 0))) := Lib.hid (by rw [HV5.out]; exact HM5.out)
  go_wp2_with (first
    | (refine wpList_store_row rfl 42 (.tmp 6) (.tmp 16) rfl w4.heap.size X rfl rfl 42 zeroMid.toArray ?hg HXi.out HXo.out HX1.out ?_)
    | (refine wpList_load_row rfl 42 (.tmp 6) rfl w4.heap.size rfl 42 _ (0, 0) _ HMl.out Tryd.underlying42 rfl HXi.out ?_))
  case hg => exact heap_last _ _
  have HV6 := Lib.hid HV5.out
  refine calls_at HV5.out ?_
  refine (HRes.out v5 HBy5.out).mono ?_
  rintro e v6 ⟨rfl, hTk6, hb6⟩
  have HTr6 := Lib.hid hTk6
  have HG6 : Hid (Below W.heap.size W v6) := Lib.hid (HG5.out.trans (hb6.mono HG5.out.size))
  have HTk6 : Hid (Took B firstI 0 l v6) := Lib.hid (HTk5.out.keep hb6 HTk5.out.lt)
  have hsz6 := hb6.size
  have HBy6 : Hid (Bytes v6.heap.size v6.heap.size q t v6) := Lib.hid ((HBy5.out.keep hb6).at hsz6 hsz6)
  have HM6 : Hid (v6.heap[w4.heap.size]? = some (.cells X 42 (0, 0))) := Lib.hid ((hb6.block _ (by have := HZ5.out; omega)).trans HM5.out)
  obtain ⟨M, hMM⟩ : ∃ M, w4.heap.size = M := ⟨_, rfl⟩
  obtain ⟨R, hRR⟩ : ∃ R, v5.heap.size + 1 = R := ⟨_, rfl⟩
  have HRl : Hid (Took R firstI 0 l v6) := Lib.hid (by rw [← hRR]; exact took_mid (by rw [HKl.out, HSt.out, HTt.out]; exact HTr6.out) (by rw [HL.out]; have := HM.out; omega))
  have HRB : Hid (B < R ∧ W.heap.size ≤ R) := Lib.hid (by have := HTk5.out.lt; have := HG5.out.size; omega)
  rw [hMM] at HM6 ⊢
  rw [hRR]
  clear hb6 hTk6 hsz6 hMM hRR HMl HTr6 HV5 HV6
  have HT6 : Hid (Tab v6) := Lib.hid (HT.out.below HG6.out)
  have HL6 : Hid (M < v6.heap.size) := Lib.hid (Array.getElem?_eq_some_iff.1 HM6.out).1
  obtain ⟨S, hS⟩ : ∃ S : World → Prop, S = fun w => Below v6.heap.size v6 w := ⟨_, rfl⟩
  have HS0 : Hid (∀ w, Below v6.heap.size v6 w → S w) := Lib.hid (by rw [hS]; exact fun w h => h)
  have HS1 : Hid (∀ w, S w → Below v6.heap.size v6 w) := Lib.hid (by rw [hS]; exact fun w h => h)
  have HC8 : Hid (∀ w, S w → w.cell? ⟨M, 8, none⟩ = some (.int .u64 (k : Int))) := Lib.hid (fun w h => by
    rw [(HS1.out w h).cell (p := ⟨M, 8, none⟩) HL6.out, cell_of_heap HM6.out]
    exact HX8.out)
  have HC9 : Hid (∀ w, S w → w.cell? ⟨M, 9, none⟩ = some (.slice q d cq)) := Lib.hid (fun w h => by
    rw [(HS1.out w h).cell (p := ⟨M, 9, none⟩) HL6.out, cell_of_heap HM6.out]
    exact HX9.out)
  clear hS
  have HSS : Hid (∀ w w', S w → Below w.heap.size w w' → S w') := Lib.hid (fun w w' h hb => HS0.out w' ((HS1.out w h).trans (hb.mono (HS1.out w h).size)))
  obtain ⟨D1, hD1⟩ : ∃ D, sumI firstI 0 l = D := ⟨_, rfl⟩
  have hl1 : D1.length = 32 := by rw [← hD1]; exact sumI_length _ _ _
  have hsame1 := fun w => dig_same D1 hl1 w
  unfold dig at hsame1
  obtain ⟨Y1, hY1⟩ : ∃ Y, (Go.Lib.byteCells D1).toArray = Y := ⟨_, rfl⟩
  rw [hY1] at hsame1
  have HSumB : Hid (∀ w, S w → Calls Tryd.prog 22 #[.pointer (some ⟨B, 0, none⟩)] w fun e w' => e = .returned (.agg Y1) ∧ Below w.heap.size w w') := Lib.hid (fun w h => by
    have k := sum_any B firstI 0 l w (HT6.out.below (HS1.out w h)) (HTk6.out.keep (HS1.out w h) HTk6.out.lt)
    rw [hD1] at k
    unfold dig at k
    rw [hY1] at k
    exact k)
  have HSumR : Hid (∀ w, S w → Calls Tryd.prog 22 #[.pointer (some ⟨R, 0, none⟩)] w fun e w' => e = .returned (.agg Y1) ∧ Below w.heap.size w w') := Lib.hid (fun w h => by
    have k := sum_any R firstI 0 l w (HT6.out.below (HS1.out w h)) (HRl.out.keep (HS1.out w h) HRl.out.lt)
    rw [hD1] at k
    unfold dig at k
    rw [hY1] at k
    exact k)
  have HLenR : Hid (∀ w, S w → Calls Tryd.prog 23 #[.pointer (some ⟨R, 0, none⟩)] w fun e w' => e = .returned (.int .u64 (n : Int)) ∧ ∃ m, w' = w.drewN m) := Lib.hid (fun w h => by
    have k := took_len (HRl.out.keep (HS1.out w h) HRl.out.lt) (by rw [HL.out]; have := HM.out; omega)
    rw [HL.out] at k
    exact k)
  obtain ⟨j, hj⟩ : ∃ j, 64 * k = j := ⟨_, rfl⟩
  have HJ := Lib.hid hj
  have e1 : IntKind.u64.wrap (n : Int) = (n : Int) := wraps_u64 _ (by omega) (by have := HM.out; omega)
  have e2 : (n : Int) / 64 = (k : Int) := by have := HK.out; omega
  have e3 : IntKind.u64.wrap (k : Int) = (k : Int) := wraps_u64 _ (by omega) (by have := HK.out; have := HM.out; omega)
  have e4 : (k : Int) * 64 = (j : Int) := by omega
  have e5 : IntKind.i64.wrap (k : Int) = (k : Int) := by have := HK.out; have := HM.out; rw [IntKind.wrap_i64]; omega
  have e6 : IntKind.i64.wrap (j : Int) = (j : Int) := by have := HK.out; have := HM.out; rw [IntKind.wrap_i64]; omega
  obtain ⟨q2, hsl, hq2⟩ := slice_from a n c (64 * k) (by have := HK.out; omega) HCc.out
  have HD2 : Hid (n - 64 * k = d) := Lib.hid (by have := HK.out; have := HD.out; omega)
  rw [HD2.out] at hsl
  have HEqual : Hid (∀ w, S w → Calls Tryd.prog 41 #[.slice q d cq, .slice q2 d (c - 64 * k)] w fun e w' => e = .returned (.bool true) ∧ w' = w) := Lib.hid (fun w h => by
    have k1 := HBy6.out.keep (HS1.out w h)
    have k2 := hq2 l w _ _ HL.out ((HBa.out.keep (HG6.out)).keep ((HS1.out w h).mono HG6.out.size))
    rw [HTt.out] at k2
    have k3 := equal_same _ _ _ _ q q2 t cq (c - 64 * k) w k1 k2
    rw [HTd.out] at k3
    exact k3)
  have HJl : Hid (j ≤ n) := Lib.hid (by have := HK.out; have := HD.out; omega)
  rw [hj] at hsl
  rw [hj] at HEqual
  have HSl := Lib.hid hsl
  clear hsl hq2 hl1 hD1 hY1 hj
  go_wp2_with fail
  have hHeld0 : S v6.drew := HS0.out _ (below_drawn 1 (Below.refl _ _))
  refine wp_region_held_drew (S := S) (by kernel_rfl) hHeld0 (fun hHeld => ?_)
  clear hHeld0
  first | (refine held_take 0 _ rfl (by kernel_rfl) (by kernel_rfl) (by kernel_rfl) (v := ?_) (fun _ _ _ h => h) ?_ rfl hHeld ?_; rotate_left; focus (intro w hS; skip; go_simp; try with_reducible rfl)) | (refine held_skip 0 _ rfl (by kernel_rfl) (by kernel_rfl) (by kernel_rfl) (fun _ _ _ h => h) rfl hHeld ?_)
  show wpAnyH _ _ _ _ _ _ _ { tmps := _, defers := _ } _
  try simp only [Act.put, List.setIfInBounds_toArray, List.set_cons_zero, List.set_cons_succ]
  first | (refine held_take 1 _ rfl (by kernel_rfl) (by kernel_rfl) (by kernel_rfl) (v := ?_) (fun _ _ _ h => h) ?_ rfl hHeld ?_; rotate_left; focus (intro w hS; skip; go_simp; try with_reducible rfl)) | (refine held_skip 1 _ rfl (by kernel_rfl) (by kernel_rfl) (by kernel_rfl) (fun _ _ _ h => h) rfl hHeld ?_)
  show wpAnyH _ _ _ _ _ _ _ { tmps := _, defers := _ } _
  try simp only [Act.put, List.setIfInBounds_toArray, List.set_cons_zero, List.set_cons_succ]
  first | (refine held_take 2 _ rfl (by kernel_rfl) (by kernel_rfl) (by kernel_rfl) (v := ?_) (fun _ _ _ h => h) ?_ rfl hHeld ?_; rotate_left; focus (intro w hS; skip; go_simp; try with_reducible rfl)) | (refine held_skip 2 _ rfl (by kernel_rfl) (by kernel_rfl) (by kernel_rfl) (fun _ _ _ h => h) rfl hHeld ?_)
  show wpAnyH _ _ _ _ _ _ _ { tmps := _, defers := _ } _
  try simp only [Act.put, List.setIfInBounds_toArray, List.set_cons_zero, List.set_cons_succ]
  first | (refine held_take 3 _ rfl (by kernel_rfl) (by kernel_rfl) (by kernel_rfl) (v := ?_) (fun _ _ _ h => h) ?_ rfl hHeld ?_; rotate_left; focus (intro w hS; skip; go_simp; try with_reducible rfl)) | (refine held_skip 3 _ rfl (by kernel_rfl) (by kernel_rfl) (by kernel_rfl) (fun _ _ _ h => h) rfl hHeld ?_)
  show wpAnyH _ _ _ _ _ _ _ { tmps := _, defers := _ } _
  try simp only [Act.put, List.setIfInBounds_toArray, List.set_cons_zero, List.set_cons_succ]
  first | (refine held_take 4 _ rfl (by kernel_rfl) (by kernel_rfl) (by kernel_rfl) (v := ?_) (fun _ _ _ h => h) ?_ rfl hHeld ?_; rotate_left; focus (intro w hS; skip; go_simp; try with_reducible rfl)) | (refine held_skip 4 _ rfl (by kernel_rfl) (by kernel_rfl) (by kernel_rfl) (fun _ _ _ h => h) rfl hHeld ?_)
  show wpAnyH _ _ _ _ _ _ _ { tmps := _, defers := _ } _
  try simp only [Act.put, List.setIfInBounds_toArray, List.set_cons_zero, List.set_cons_succ]
  first | (refine held_take 5 _ rfl (by kernel_rfl) (by kernel_rfl) (by kernel_rfl) (v := ?_) (fun _ _ _ h => h) ?_ rfl hHeld ?_; rotate_left; focus (intro w hS; skip; go_simp; try with_reducible rfl)) | (refine held_skip 5 _ rfl (by kernel_rfl) (by kernel_rfl) (by kernel_rfl) (fun _ _ _ h => h) rfl hHeld ?_)
  show wpAnyH _ _ _ _ _ _ _ { tmps := _, defers := _ } _
  try simp only [Act.put, List.setIfInBounds_toArray, List.set_cons_zero, List.set_cons_succ]
  first | (refine held_take 6 _ rfl (by kernel_rfl) (by kernel_rfl) (by kernel_rfl) (v := ?_) (fun _ _ _ h => h) ?_ rfl hHeld ?_; rotate_left; focus (intro w hS; skip; go_simp; try with_reducible rfl)) | (refine held_skip 6 _ rfl (by kernel_rfl) (by kernel_rfl) (by kernel_rfl) (fun _ _ _ h => h) rfl hHeld ?_)
  show wpAnyH _ _ _ _ _ _ _ { tmps := _, defers := _ } _
  try simp only [Act.put, List.setIfInBounds_toArray, List.set_cons_zero, List.set_cons_succ]
  first | (refine held_take 7 _ rfl (by kernel_rfl) (by kernel_rfl) (by kernel_rfl) (v := ?_) (fun _ _ _ h => h) ?_ rfl hHeld ?_; rotate_left; focus (intro w hS; skip; go_simp; try with_reducible rfl)) | (refine held_skip 7 _ rfl (by kernel_rfl) (by kernel_rfl) (by kernel_rfl) (fun _ _ _ h => h) rfl hHeld ?_)
  show wpAnyH _ _ _ _ _ _ _ { tmps := _, defers := _ } _
  try simp only [Act.put, List.setIfInBounds_toArray, List.set_cons_zero, List.set_cons_succ]
  first | (refine held_take 9 _ rfl (by kernel_rfl) (by kernel_rfl) (by kernel_rfl) (v := ?_) (fun _ _ _ h => h) ?_ rfl hHeld ?_; rotate_left; focus (intro w hS; skip; go_simp; try with_reducible rfl)) | (refine held_skip 9 _ rfl (by kernel_rfl) (by kernel_rfl) (by kernel_rfl) (fun _ _ _ h => h) rfl hHeld ?_)
  show wpAnyH _ _ _ _ _ _ _ { tmps := _, defers := _ } _
  try simp only [Act.put, List.setIfInBounds_toArray, List.set_cons_zero, List.set_cons_succ]
  refine held_next 8 _ (by kernel_rfl) rfl rfl fun K hK => ?_
  go_simp
  refine (HSumR.out _ hHeld).mono ?_
  rintro e w1 ⟨rfl, hb1⟩
  show K _ _
  refine hK _ _ (HSS.out _ _ hHeld hb1) (fun hHeld => ?_)
  clear hK K
  show wpAnyH _ _ _ _ _ _ _ { tmps := _, defers := _ } _
  try simp only [Act.put, List.setIfInBounds_toArray, List.set_cons_zero, List.set_cons_succ]
  refine held_next 10 _ (by kernel_rfl) rfl rfl fun K hK => ?_
  go_simp
  refine (HSumB.out _ hHeld).mono ?_
  rintro e w1 ⟨rfl, hb1⟩
  show K _ _
  refine hK _ _ (HSS.out _ _ hHeld hb1) (fun hHeld => ?_)
  clear hK K
  show wpAnyH _ _ _ _ _ _ _ { tmps := _, defers := _ } _
  try simp only [Act.put, List.setIfInBounds_toArray, List.set_cons_zero, List.set_cons_succ]
  first | (refine held_take 11 _ rfl (by kernel_rfl) (by kernel_rfl) (by kernel_rfl) (v := ?_) (fun _ _ _ h => h) ?_ rfl hHeld ?_; rotate_left; focus (intro w hS; have h := hsame1 w; go_simp; try with_reducible rfl)) | (refine held_skip 11 _ rfl (by kernel_rfl) (by kernel_rfl) (by kernel_rfl) (fun _ _ _ h => h) rfl hHeld ?_)
  show wpAnyH _ _ _ _ _ _ _ { tmps := _, defers := _ } _
  try simp only [Act.put, List.setIfInBounds_toArray, List.set_cons_zero, List.set_cons_succ]
  first | (refine held_take 12 _ rfl (by kernel_rfl) (by kernel_rfl) (by kernel_rfl) (v := ?_) (fun _ _ _ h => h) ?_ rfl hHeld ?_; rotate_left; focus (intro w hS; skip; go_simp; try with_reducible rfl)) | (refine held_skip 12 _ rfl (by kernel_rfl) (by kernel_rfl) (by kernel_rfl) (fun _ _ _ h => h) rfl hHeld ?_)
  show wpAnyH _ _ _ _ _ _ _ { tmps := _, defers := _ } _
  try simp only [Act.put, List.setIfInBounds_toArray, List.set_cons_zero, List.set_cons_succ]
  first | (refine held_take 13 _ rfl (by kernel_rfl) (by kernel_rfl) (by kernel_rfl) (v := ?_) (fun _ _ _ h => h) ?_ rfl hHeld ?_; rotate_left; focus (intro w hS; skip; go_simp; try with_reducible rfl)) | (refine held_skip 13 _ rfl (by kernel_rfl) (by kernel_rfl) (by kernel_rfl) (fun _ _ _ h => h) rfl hHeld ?_)
  show wpAnyH _ _ _ _ _ _ _ { tmps := _, defers := _ } _
  try simp only [Act.put, List.setIfInBounds_toArray, List.set_cons_zero, List.set_cons_succ]
  first | (refine held_take 14 _ rfl (by kernel_rfl) (by kernel_rfl) (by kernel_rfl) (v := ?_) (fun _ _ _ h => h) ?_ rfl hHeld ?_; rotate_left; focus (intro w hS; skip; go_simp; try with_reducible rfl)) | (refine held_skip 14 _ rfl (by kernel_rfl) (by kernel_rfl) (by kernel_rfl) (fun _ _ _ h => h) rfl hHeld ?_)
  show wpAnyH _ _ _ _ _ _ _ { tmps := _, defers := _ } _
  try simp only [Act.put, List.setIfInBounds_toArray, List.set_cons_zero, List.set_cons_succ]
  first | (refine held_take 16 _ rfl (by kernel_rfl) (by kernel_rfl) (by kernel_rfl) (v := ?_) (fun _ _ _ h => h) ?_ rfl hHeld ?_; rotate_left; focus (intro w hS; skip; go_simp; try with_reducible rfl)) | (refine held_skip 16 _ rfl (by kernel_rfl) (by kernel_rfl) (by kernel_rfl) (fun _ _ _ h => h) rfl hHeld ?_)
  show wpAnyH _ _ _ _ _ _ _ { tmps := _, defers := _ } _
  try simp only [Act.put, List.setIfInBounds_toArray, List.set_cons_zero, List.set_cons_succ]
  first | (refine held_take 17 _ rfl (by kernel_rfl) (by kernel_rfl) (by kernel_rfl) (v := ?_) (fun _ _ _ h => h) ?_ rfl hHeld ?_; rotate_left; focus (intro w hS; skip; go_simp; try with_reducible rfl)) | (refine held_skip 17 _ rfl (by kernel_rfl) (by kernel_rfl) (by kernel_rfl) (fun _ _ _ h => h) rfl hHeld ?_)
  show wpAnyH _ _ _ _ _ _ _ { tmps := _, defers := _ } _
  try simp only [Act.put, List.setIfInBounds_toArray, List.set_cons_zero, List.set_cons_succ]
  first | (refine held_take 18 _ rfl (by kernel_rfl) (by kernel_rfl) (by kernel_rfl) (v := ?_) (fun _ _ _ h => h) ?_ rfl hHeld ?_; rotate_left; focus (intro w hS; skip; go_simp; try with_reducible rfl)) | (refine held_skip 18 _ rfl (by kernel_rfl) (by kernel_rfl) (by kernel_rfl) (fun _ _ _ h => h) rfl hHeld ?_)
  show wpAnyH _ _ _ _ _ _ _ { tmps := _, defers := _ } _
  try simp only [Act.put, List.setIfInBounds_toArray, List.set_cons_zero, List.set_cons_succ]
  refine held_next 15 _ (by kernel_rfl) rfl rfl fun K hK => ?_
  go_simp
  refine (HLenR.out _ hHeld).mono ?_
  rintro e w1 ⟨rfl, m, rfl⟩
  show K _ _
  refine hK _ _ (HSS.out _ _ hHeld (below_drawn m (Below.refl _ _))) (fun hHeld => ?_)
  clear hK K
  show wpAnyH _ _ _ _ _ _ _ { tmps := _, defers := _ } _
  try simp only [Act.put, List.setIfInBounds_toArray, List.set_cons_zero, List.set_cons_succ]
  first | (refine held_take 19 _ rfl (by kernel_rfl) (by kernel_rfl) (by kernel_rfl) (v := ?_) (fun _ _ _ h => h) ?_ rfl hHeld ?_; rotate_left; focus (intro w hS; skip; go_simp; try with_reducible rfl)) | (refine held_skip 19 _ rfl (by kernel_rfl) (by kernel_rfl) (by kernel_rfl) (fun _ _ _ h => h) rfl hHeld ?_)
  show wpAnyH _ _ _ _ _ _ _ { tmps := _, defers := _ } _
  try simp only [Act.put, List.setIfInBounds_toArray, List.set_cons_zero, List.set_cons_succ]
  first | (refine held_take 20 _ rfl (by kernel_rfl) (by kernel_rfl) (by kernel_rfl) (v := ?_) (fun _ _ _ h => h) ?_ rfl hHeld ?_; rotate_left; focus (intro w hS; skip; go_simp; try with_reducible rfl)) | (refine held_skip 20 _ rfl (by kernel_rfl) (by kernel_rfl) (by kernel_rfl) (fun _ _ _ h => h) rfl hHeld ?_)
  show wpAnyH _ _ _ _ _ _ _ { tmps := _, defers := _ } _
  try simp only [Act.put, List.setIfInBounds_toArray, List.set_cons_zero, List.set_cons_succ]
  first | (refine held_take 21 _ rfl (by kernel_rfl) (by kernel_rfl) (by kernel_rfl) (v := ?_) (fun _ _ _ h => h) ?_ rfl hHeld ?_; rotate_left; focus (intro w hS; skip; go_simp; try with_reducible rfl)) | (refine held_skip 21 _ rfl (by kernel_rfl) (by kernel_rfl) (by kernel_rfl) (fun _ _ _ h => h) rfl hHeld ?_)
  show wpAnyH _ _ _ _ _ _ _ { tmps := _, defers := _ } _
  try simp only [Act.put, List.setIfInBounds_toArray, List.set_cons_zero, List.set_cons_succ]
  first | (refine held_take 22 _ rfl (by kernel_rfl) (by kernel_rfl) (by kernel_rfl) (v := ?_) (fun _ _ _ h => h) ?_ rfl hHeld ?_; rotate_left; focus (intro w hS; skip; go_simp; try with_reducible rfl)) | (refine held_skip 22 _ rfl (by kernel_rfl) (by kernel_rfl) (by kernel_rfl) (fun _ _ _ h => h) rfl hHeld ?_)
  show wpAnyH _ _ _ _ _ _ _ { tmps := _, defers := _ } _
  try simp only [Act.put, List.setIfInBounds_toArray, List.set_cons_zero, List.set_cons_succ]
  first | (refine held_take 23 _ rfl (by kernel_rfl) (by kernel_rfl) (by kernel_rfl) (v := ?_) (fun _ _ _ h => h) ?_ rfl hHeld ?_; rotate_left; focus (intro w hS; have h8 := HC8.out w hS; go_simp; try with_reducible rfl)) | (refine held_skip 23 _ rfl (by kernel_rfl) (by kernel_rfl) (by kernel_rfl) (fun _ _ _ h => h) rfl hHeld ?_)
  show wpAnyH _ _ _ _ _ _ _ { tmps := _, defers := _ } _
  try simp only [Act.put, List.setIfInBounds_toArray, List.set_cons_zero, List.set_cons_succ]
  first | (refine held_take 24 _ rfl (by kernel_rfl) (by kernel_rfl) (by kernel_rfl) (v := ?_) (fun _ _ _ h => h) ?_ rfl hHeld ?_; rotate_left; focus (intro w hS; skip; go_simp; try with_reducible rfl)) | (refine held_skip 24 _ rfl (by kernel_rfl) (by kernel_rfl) (by kernel_rfl) (fun _ _ _ h => h) rfl hHeld ?_)
  show wpAnyH _ _ _ _ _ _ _ { tmps := _, defers := _ } _
  try simp only [Act.put, List.setIfInBounds_toArray, List.set_cons_zero, List.set_cons_succ]
  first | (refine held_take 25 _ rfl (by kernel_rfl) (by kernel_rfl) (by kernel_rfl) (v := ?_) (fun _ _ _ h => h) ?_ rfl hHeld ?_; rotate_left; focus (intro w hS; skip; go_simp; try with_reducible rfl)) | (refine held_skip 25 _ rfl (by kernel_rfl) (by kernel_rfl) (by kernel_rfl) (fun _ _ _ h => h) rfl hHeld ?_)
  show wpAnyH _ _ _ _ _ _ _ { tmps := _, defers := _ } _
  try simp only [Act.put, List.setIfInBounds_toArray, List.set_cons_zero, List.set_cons_succ]
  first | (refine held_take 26 _ rfl (by kernel_rfl) (by kernel_rfl) (by kernel_rfl) (v := ?_) (fun _ _ _ h => h) ?_ rfl hHeld ?_; rotate_left; focus (intro w hS; skip; go_simp; try with_reducible rfl)) | (refine held_skip 26 _ rfl (by kernel_rfl) (by kernel_rfl) (by kernel_rfl) (fun _ _ _ h => h) rfl hHeld ?_)
  show wpAnyH _ _ _ _ _ _ _ { tmps := _, defers := _ } _
  try simp only [Act.put, List.setIfInBounds_toArray, List.set_cons_zero, List.set_cons_succ]
  first | (refine held_take 27 _ rfl (by kernel_rfl) (by kernel_rfl) (by kernel_rfl) (v := ?_) (fun _ _ _ h => h) ?_ rfl hHeld ?_; rotate_left; focus (intro w hS; skip; go_simp; try with_reducible rfl)) | (refine held_skip 27 _ rfl (by kernel_rfl) (by kernel_rfl) (by kernel_rfl) (fun _ _ _ h => h) rfl hHeld ?_)
  show wpAnyH _ _ _ _ _ _ _ { tmps := _, defers := _ } _
  try simp only [Act.put, List.setIfInBounds_toArray, List.set_cons_zero, List.set_cons_succ]
  first | (refine held_take 28 _ rfl (by kernel_rfl) (by kernel_rfl) (by kernel_rfl) (v := ?_) (fun _ _ _ h => h) ?_ rfl hHeld ?_; rotate_left; focus (intro w hS; skip; go_simp; try with_reducible rfl)) | (refine held_skip 28 _ rfl (by kernel_rfl) (by kernel_rfl) (by kernel_rfl) (fun _ _ _ h => h) rfl hHeld ?_)
  show wpAnyH _ _ _ _ _ _ _ { tmps := _, defers := _ } _
  try simp only [Act.put, List.setIfInBounds_toArray, List.set_cons_zero, List.set_cons_succ]
  first | (refine held_take 29 _ rfl (by kernel_rfl) (by kernel_rfl) (by kernel_rfl) (v := ?_) (fun _ _ _ h => h) ?_ rfl hHeld ?_; rotate_left; focus (intro w hS; skip; go_simp; try with_reducible rfl)) | (refine held_skip 29 _ rfl (by kernel_rfl) (by kernel_rfl) (by kernel_rfl) (fun _ _ _ h => h) rfl hHeld ?_)
  show wpAnyH _ _ _ _ _ _ _ { tmps := _, defers := _ } _
  try simp only [Act.put, List.setIfInBounds_toArray, List.set_cons_zero, List.set_cons_succ]
  first | (refine held_take 30 _ rfl (by kernel_rfl) (by kernel_rfl) (by kernel_rfl) (v := ?_) (fun _ _ _ h => h) ?_ rfl hHeld ?_; rotate_left; focus (intro w hS; skip; go_simp; try with_reducible rfl)) | (refine held_skip 30 _ rfl (by kernel_rfl) (by kernel_rfl) (by kernel_rfl) (fun _ _ _ h => h) rfl hHeld ?_)
  show wpAnyH _ _ _ _ _ _ _ { tmps := _, defers := _ } _
  try simp only [Act.put, List.setIfInBounds_toArray, List.set_cons_zero, List.set_cons_succ]
  first | (refine held_take 31 _ rfl (by kernel_rfl) (by kernel_rfl) (by kernel_rfl) (v := ?_) (fun _ _ _ h => h) ?_ rfl hHeld ?_; rotate_left; focus (intro w hS; skip; go_simp; try with_reducible rfl)) | (refine held_skip 31 _ rfl (by kernel_rfl) (by kernel_rfl) (by kernel_rfl) (fun _ _ _ h => h) rfl hHeld ?_)
  show wpAnyH _ _ _ _ _ _ _ { tmps := _, defers := _ } _
  try simp only [Act.put, List.setIfInBounds_toArray, List.set_cons_zero, List.set_cons_succ]
  first | (refine held_take 32 _ rfl (by kernel_rfl) (by kernel_rfl) (by kernel_rfl) (v := ?_) (fun _ _ _ h => h) ?_ rfl hHeld ?_; rotate_left; focus (intro w hS; have h9 := HC9.out w hS; go_simp; try with_reducible rfl)) | (refine held_skip 32 _ rfl (by kernel_rfl) (by kernel_rfl) (by kernel_rfl) (fun _ _ _ h => h) rfl hHeld ?_)
  show wpAnyH _ _ _ _ _ _ _ { tmps := _, defers := _ } _
  try simp only [Act.put, List.setIfInBounds_toArray, List.set_cons_zero, List.set_cons_succ]
  first | (refine held_take 33 _ rfl (by kernel_rfl) (by kernel_rfl) (by kernel_rfl) (v := ?_) (fun _ _ _ h => h) ?_ rfl hHeld ?_; rotate_left; focus (intro w hS; skip; go_simp; try with_reducible rfl)) | (refine held_skip 33 _ rfl (by kernel_rfl) (by kernel_rfl) (by kernel_rfl) (fun _ _ _ h => h) rfl hHeld ?_)
  show wpAnyH _ _ _ _ _ _ _ { tmps := _, defers := _ } _
  try simp only [Act.put, List.setIfInBounds_toArray, List.set_cons_zero, List.set_cons_succ]
  first | (refine held_take 34 _ rfl (by kernel_rfl) (by kernel_rfl) (by kernel_rfl) (v := ?_) (fun _ _ _ h => h) ?_ rfl hHeld ?_; rotate_left; focus (intro w hS; skip; go_simp; try with_reducible rfl)) | (refine held_skip 34 _ rfl (by kernel_rfl) (by kernel_rfl) (by kernel_rfl) (fun _ _ _ h => h) rfl hHeld ?_)
  show wpAnyH _ _ _ _ _ _ _ { tmps := _, defers := _ } _
  try simp only [Act.put, List.setIfInBounds_toArray, List.set_cons_zero, List.set_cons_succ]
  first | (refine held_take 35 _ rfl (by kernel_rfl) (by kernel_rfl) (by kernel_rfl) (v := ?_) (fun _ _ _ h => h) ?_ rfl hHeld ?_; rotate_left; focus (intro w hS; skip; go_simp; try with_reducible rfl)) | (refine held_skip 35 _ rfl (by kernel_rfl) (by kernel_rfl) (by kernel_rfl) (fun _ _ _ h => h) rfl hHeld ?_)
  show wpAnyH _ _ _ _ _ _ _ { tmps := _, defers := _ } _
  try simp only [Act.put, List.setIfInBounds_toArray, List.set_cons_zero, List.set_cons_succ]
  first | (refine held_take 36 _ rfl (by kernel_rfl) (by kernel_rfl) (by kernel_rfl) (v := ?_) (fun _ _ _ h => h) ?_ rfl hHeld ?_; rotate_left; focus (intro w hS; skip; go_simp; try with_reducible rfl)) | (refine held_skip 36 _ rfl (by kernel_rfl) (by kernel_rfl) (by kernel_rfl) (fun _ _ _ h => h) rfl hHeld ?_)
  show wpAnyH _ _ _ _ _ _ _ { tmps := _, defers := _ } _
  try simp only [Act.put, List.setIfInBounds_toArray, List.set_cons_zero, List.set_cons_succ]
  first | (refine held_take 37 _ rfl (by kernel_rfl) (by kernel_rfl) (by kernel_rfl) (v := ?_) (fun _ _ _ h => h) ?_ rfl hHeld ?_; rotate_left; focus (intro w hS; skip; go_simp; try with_reducible rfl)) | (refine held_skip 37 _ rfl (by kernel_rfl) (by kernel_rfl) (by kernel_rfl) (fun _ _ _ h => h) rfl hHeld ?_)
  show wpAnyH _ _ _ _ _ _ _ { tmps := _, defers := _ } _
  try simp only [Act.put, List.setIfInBounds_toArray, List.set_cons_zero, List.set_cons_succ]
  first | (refine held_take 38 _ rfl (by kernel_rfl) (by kernel_rfl) (by kernel_rfl) (v := ?_) (fun _ _ _ h => h) ?_ rfl hHeld ?_; rotate_left; focus (intro w hS; have h10 := HSl.out w; go_simp; try with_reducible rfl)) | (refine held_skip 38 _ rfl (by kernel_rfl) (by kernel_rfl) (by kernel_rfl) (fun _ _ _ h => h) rfl hHeld ?_)
  show wpAnyH _ _ _ _ _ _ _ { tmps := _, defers := _ } _
  try simp only [Act.put, List.setIfInBounds_toArray, List.set_cons_zero, List.set_cons_succ]
  refine held_next 39 _ (by kernel_rfl) rfl rfl fun K hK => ?_
  go_simp
  refine (HEqual.out _ hHeld).mono ?_
  rintro e w1 ⟨rfl, rfl⟩
  show K _ _
  refine hK _ _ (hHeld) (fun hHeld => ?_)
  clear hK K
  show wpAnyH _ _ _ _ _ _ _ { tmps := _, defers := _ } _
  try simp only [Act.put, List.setIfInBounds_toArray, List.set_cons_zero, List.set_cons_succ]
  first | (refine held_take 40 _ rfl (by kernel_rfl) (by kernel_rfl) (by kernel_rfl) (v := ?_) (fun _ _ _ h => h) ?_ rfl hHeld ?_; rotate_left; focus (intro w hS; skip; go_simp; try with_reducible rfl)) | (refine held_skip 40 _ rfl (by kernel_rfl) (by kernel_rfl) (by kernel_rfl) (fun _ _ _ h => h) rfl hHeld ?_)
  show wpAnyH _ _ _ _ _ _ _ { tmps := _, defers := _ } _
  try simp only [Act.put, List.setIfInBounds_toArray, List.set_cons_zero, List.set_cons_succ]
  first | (refine held_take 41 _ rfl (by kernel_rfl) (by kernel_rfl) (by kernel_rfl) (v := ?_) (fun _ _ _ h => h) ?_ rfl hHeld ?_; rotate_left; focus (intro w hS; skip; go_simp; try with_reducible rfl)) | (refine held_skip 41 _ rfl (by kernel_rfl) (by kernel_rfl) (by kernel_rfl) (fun _ _ _ h => h) rfl hHeld ?_)
  show wpAnyH _ _ _ _ _ _ _ { tmps := _, defers := _ } _
  try simp only [Act.put, List.setIfInBounds_toArray, List.set_cons_zero, List.set_cons_succ]
  refine wpAnyH_done (by kernel_rfl) ?_ _
  generalize w1.drewN m = v7 at hHeld ⊢
  have HS7 := Lib.hid (HS1.out _ hHeld)
  clear hHeld e1 e2 e3 e4 e5 e6 hsame1
  go_wp2_with fail
  have HG7 : Hid (Below W.heap.size W v7) := Lib.hid (HG6.out.trans (HS7.out.mono HG6.out.size))
  have HTk7 : Hid (Took B firstI 0 l v7) := Lib.hid (HTk6.out.keep HS7.out HTk6.out.lt)
  have HRl7 : Hid (Took R firstI 0 l v7) := Lib.hid (HRl.out.keep HS7.out HRl.out.lt)
  clear HSl HEqual HD2 HLenR HSumR HSumB HSS HC9 HC8 HS1 HS0 HL6 HT6 HRl HM6 HBy6 HTk6 HG6
  obtain ⟨v8, hv8⟩ : ∃ v, v = v7.alloc (.cells #[Value.slice a2 n2 c2] 29) := ⟨_, rfl⟩
  have HG8 : Hid (Below W.heap.size W v8) := Lib.hid (by rw [hv8]; exact HG7.out.alloc HG7.out.size _)
  have HZ8 : Hid (v8.heap.size = v7.heap.size + 1) := Lib.hid (by rw [hv8]; simp)
  have HTk8 : Hid (Took B firstI 0 l v8) := Lib.hid (by rw [hv8]; exact HTk7.out.alloc _)
  have HRl8 : Hid (Took R firstI 0 l v8) := Lib.hid (by rw [hv8]; exact HRl7.out.alloc _)
  have HWrite2 := Lib.hid (write_ok R firstI 0 l (some ⟨v7.heap.size, 0, none⟩) 1 1 (by decide) (fun _ => a2) (fun _ => c2) (fun _ => l2) v8 (HT.out.below HG8.out) HRl8.out (by
    have hz := HZ8.out
    have hlt := HRl7.out.lt
    have hs := HG7.out.size
    have hR := HRB.out
    refine parts_oneK (by rw [hv8, cell_of_heap (heap_last _ _), HL2.out]; rfl) (by omega) (by omega) ?_ (by rw [HL2.out]; exact HCc2.out) (by rw [HL2.out]; exact HM2.out)
    intro hne
    obtain ⟨pb, off, hp, h1, h2, h3⟩ := (HBb.out.keep HG8.out) hne
    exact ⟨pb, off, hp, by omega, by omega, h3⟩) (by rw [cat_one, HL.out, HL2.out]; have := HM.out; have := HM2.out; omega))
  rw [cat_one] at HWrite2
  rw [← hv8]
  clear hv8
  refine HWrite2.out.mono ?_
  rintro e v9 ⟨rfl, hTk9, hb9⟩
  have HRl9 := Lib.hid hTk9
  have HTk9 : Hid (Took B firstI 0 l v9) := Lib.hid (took_copy HTk8.out (hb9.block B HTk8.out.lt (by have := HRB.out; omega)))
  have HG9 : Hid (Below W.heap.size W v9) := Lib.hid (HG8.out.trans (hb9.below HRB.out.2 HG8.out.size))
  clear hTk9 hb9 HWrite2 HRl8 HTk8 HZ8 HG8 HRl7 HTk7 HG7 HS7
  obtain ⟨l3, hl3⟩ : ∃ x, l ++ l2 = x := ⟨_, rfl⟩
  have H1 := Lib.hid (fun w hw => sum_one a c l W HT.out HBa.out (by rw [HL.out]; exact HCc.out) (by rw [HL.out]; exact HM.out) w hw)
  have H2 := Lib.hid (fun w hw => sum_two a c l a2 c2 l2 W HT.out HBa.out (by rw [HL.out]; exact HCc.out) (by rw [HL.out]; exact HM.out) HBb.out (by rw [HL2.out]; exact HCc2.out) (by rw [HL2.out]; exact HM2.out) w hw)
  have H0 := Lib.hid (fun w hw => sum_none W HT.out w hw)
  have HB1 := Lib.hid (fun w hw => sum_any B firstI 0 l w (HT.out.below ((HG9.out).trans ((hw : Below v9.heap.size v9 w).mono HG9.out.size))) (HTk9.out.keep hw HTk9.out.lt))
  have HR1 := Lib.hid (fun w hw => sum_any R firstI 0 (l ++ l2) w (HT.out.below ((HG9.out).trans ((hw : Below v9.heap.size v9 w).mono HG9.out.size))) (HRl9.out.keep hw HRl9.out.lt))
  rw [hl3] at H2 HRl9 HR1
  obtain ⟨D1, hD1⟩ : ∃ D, sumI firstI 0 l = D := ⟨_, rfl⟩
  obtain ⟨D3, hD3⟩ : ∃ D, sumI firstI 0 l3 = D := ⟨_, rfl⟩
  have hs1 := fun w => dig_same D1 (by rw [← hD1]; exact sumI_length _ _ _) w
  have hs3 := fun w => dig_same D3 (by rw [← hD3]; exact sumI_length _ _ _) w
  have HD3 := Lib.hid hD3
  rw [HL.out, hD1] at H1
  rw [HL.out, HL2.out, hD3] at H2
  rw [hD1] at HB1
  rw [hD3] at HR1
  unfold dig at H1 H2 HB1 HR1 hs1 hs3
  obtain ⟨Z1, hZ1⟩ : ∃ Y, (Go.Lib.byteCells D1).toArray = Y := ⟨_, rfl⟩
  obtain ⟨Z3, hZ3⟩ : ∃ Y, (Go.Lib.byteCells D3).toArray = Y := ⟨_, rfl⟩
  have HZ3 := Lib.hid hZ3
  rw [hZ1] at H1 HB1 hs1
  rw [hZ3] at H2 HR1 hs3
  clear hZ1 hZ3 hD1 hD3 hl3
  go_wp2_with fail
  refine (HR1.out v9 (Below.refl _ _)).mono ?_
  rintro e v10 ⟨rfl, hb10⟩
  have HG10 := Lib.hid (HG9.out.trans (hb10.mono HG9.out.size))
  have HQ10 := Lib.hid hb10
  clear hb10
  go_wp2_with fail
  refine (H2.out _ HG10.out).mono ?_
  rintro e v11 ⟨rfl, hb11⟩
  have HG11 := Lib.hid (HG10.out.trans (hb11.mono HG10.out.size))
  have HQ11 := Lib.hid (HQ10.out.trans (hb11.mono HQ10.out.size))
  clear hb11
  go_wp2_with fail
  refine (HB1.out _ HQ11.out).mono ?_
  rintro e v12 ⟨rfl, hb12⟩
  have HG12 := Lib.hid (HG11.out.trans (hb12.mono HG11.out.size))
  have HQ12 := Lib.hid (HQ11.out.trans (hb12.mono HQ11.out.size))
  clear hb12
  go_wp2_with fail
  refine (H1.out _ HG12.out).mono ?_
  rintro e v13 ⟨rfl, hb13⟩
  have HG13 := Lib.hid (HG12.out.trans (hb13.mono HG12.out.size))
  have HQ13 := Lib.hid (HQ12.out.trans (hb13.mono HQ12.out.size))
  clear hb13
  go_wp2_with fail
  have HTk13 := Lib.hid (HTk9.out.keep HQ13.out HTk9.out.lt)
  have HRl13 := Lib.hid (HRl9.out.keep HQ13.out HRl9.out.lt)
  clear HB1 HR1 hs1 H1 HQ13 HQ12 HQ11 HQ10 HG12 HG11 HG10 HRl9 HTk9
  refine (reset_any B firstI 0 l v13 HTk13.out).mono ?_
  rintro e v14 ⟨rfl, hTk14, hb14⟩
  have HTk14 := Lib.hid hTk14
  have HRl14 : Hid (Took R firstI 0 l3 v14) := Lib.hid (took_copy HRl13.out (hb14.block R HRl13.out.lt (by have := HRB.out; omega)))
  have HG14 : Hid (Below W.heap.size W v14) := Lib.hid (HG13.out.trans (hb14.below HBl.out HG13.out.size))
  clear hTk14 hb14 HRl13 HTk13 HG13
  have HLen0 : Hid (Calls Tryd.prog 23 #[.pointer (some ⟨B, 0, none⟩)] v14 fun e w' => e = .returned (.int .u64 0) ∧ ∃ n, w' = v14.drewN n) := Lib.hid (took_len HTk14.out (by decide))
  have HB1 := Lib.hid (fun w hw => sum_any B firstI 0 [] w (HT.out.below ((HG14.out).trans ((hw : Below v14.heap.size v14 w).mono HG14.out.size))) (HTk14.out.keep hw HTk14.out.lt))
  have HR1 := Lib.hid (fun w hw => sum_any R firstI 0 l3 w (HT.out.below ((HG14.out).trans ((hw : Below v14.heap.size v14 w).mono HG14.out.size))) (HRl14.out.keep hw HRl14.out.lt))
  obtain ⟨D0, hD0⟩ : ∃ D, sumI firstI 0 [] = D := ⟨_, rfl⟩
  have hs0 := fun w => dig_same D0 (by rw [← hD0]; exact sumI_length _ _ _) w
  rw [hD0] at H0 HB1
  rw [HD3.out] at HR1
  unfold dig at H0 HB1 HR1 hs0
  obtain ⟨Z0, hZ0⟩ : ∃ Y, (Go.Lib.byteCells D0).toArray = Y := ⟨_, rfl⟩
  rw [hZ0] at H0 HB1 hs0
  rw [HZ3.out] at HR1
  clear hZ0 hD0
  go_wp2_with fail
  refine HLen0.out.mono ?_
  rintro e v15 ⟨rfl, m15, rfl⟩
  have HG15 := Lib.hid (below_drawn m15 HG14.out)
  have HQ15 : Hid (Below v14.heap.size v14 (v14.drewN m15)) := Lib.hid (below_drawn m15 (Below.refl _ _))
  generalize v14.drewN m15 = v15 at HG15 HQ15 ⊢
  go_wp2_with fail
  refine (HB1.out _ HQ15.out).mono ?_
  rintro e v16 ⟨rfl, hb16⟩
  have HG16 := Lib.hid (HG15.out.trans (hb16.mono HG15.out.size))
  have HQ16 := Lib.hid (HQ15.out.trans (hb16.mono HQ15.out.size))
  clear hb16
  go_wp2_with fail
  refine (H0.out _ HG16.out).mono ?_
  rintro e v17 ⟨rfl, hb17⟩
  have HG17 := Lib.hid (HG16.out.trans (hb17.mono HG16.out.size))
  have HQ17 := Lib.hid (HQ16.out.trans (hb17.mono HQ16.out.size))
  clear hb17
  go_wp2_with fail
  refine (HR1.out _ HQ17.out).mono ?_
  rintro e v18 ⟨rfl, hb18⟩
  have HG18 := Lib.hid (HG17.out.trans (hb18.mono HG17.out.size))
  clear hb18
  go_wp2_with fail
  refine (H2.out _ HG18.out).mono ?_
  rintro e v19 ⟨rfl, hb19⟩
  have HG19 := Lib.hid (HG18.out.trans (hb19.mono HG18.out.size))
  clear hb19
  go_wp2_with fail
  refine (HWorks.out _ (HT.out.below HG19.out)).mono ?_
  rintro e v20 ⟨rfl, hb20⟩
  have HG20 := Lib.hid (HG19.out.trans (hb20.mono HG19.out.size))
  clear hb20
  go_wp2_with fail
  go_ret
  exact ⟨rfl, HG20.out⟩
end Go.Proofs.YtphgaemmbdogmaaDoor
