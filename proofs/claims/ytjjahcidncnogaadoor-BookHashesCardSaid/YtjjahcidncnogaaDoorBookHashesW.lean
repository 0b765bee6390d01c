/- BookHashes, walked. -/
import Derived.Test.YtjjahcidncnogaaDoorBookH
import Derived.Test.YtjjahcidncnogaaDoorShaOpen
namespace Go.Proofs.YtjjahcidncnogaaDoor
open Go.ChangeShapes Go.WideShapes Go.ChangeAt Go.RowKit Go.Lib

set_option maxRecDepth 100000 in
set_option maxHeartbeats 4000000 in
theorem beyond_one (g : Nat) (p : Option Addr) (c n : Nat) (hn : n ≤ 140737488351232) (w : World) (hc : w.cell? ⟨g, 0, none⟩ = some (.slice p n c)) :
    Calls Tryd.prog 57 #[.slice (some ⟨g, 0, none⟩) 1 1] w fun e w' => e = .returned (.bool (decide ((2147483648 : Int) ≤ (n : Int) + 1))) ∧ w' = w := by
  have HC := Lib.hid hc
  have hw1 : IntKind.i64.wrap ((n : Int) + 1) = (n : Int) + 1 := by rw [IntKind.wrap_i64]; omega
  clear hc
  go_enter Tryd.func57, Tryd.ntmps57
  go_wp2_with fail
  go_loop [3, 4] (fun s v => (v = .int .i64 0 ∧ s = .int .i64 0) ∨ (v = .int .i64 1 ∧ s = .int .i64 ((n : Int) + 1))) (fun _ v => 1 - (RowKit.intOf v).toNat)
  case atStart => exact .inl ⟨rfl, rfl⟩
  case round =>
    rcases hrel with ⟨rfl, rfl⟩ | ⟨rfl, rfl⟩
    · have c1 := HC.out
      go_wp2_with fail
      go_round
      case rel => exact .inr ⟨rfl, by first | rfl | (congr 1; omega)⟩
      case measure => simp [RowKit.intOf]
    · go_wp2_with fail
      go_ret
      exact ⟨rfl, rfl⟩

set_option maxRecDepth 100000 in
set_option maxHeartbeats 8000000 in
theorem bookHashes_walk (a : Option Addr) (c : Nat) (l : List UInt8) (D1 D2 : List UInt8) (W : World) (hT : Tab W) (hn : a = none → l = []) (hB : Bytes W.heap.size W.heap.size a l W) (hm : l.length ≤ 140737488351232) (hc : l.length ≤ c) (hk : a = none → c = 0)
    (n1 : D1.length = 32) (n2 : D2.length = 32) :
    Calls Tryd.prog 12 #[.slice a l.length c, .agg (Go.Lib.byteCells D1).toArray, .agg (Go.Lib.byteCells D2).toArray] W fun e w' => e = .returned (.bool true) ∧ Below W.heap.size W w' := by
  have HT := Lib.hid hT
  have HB := Lib.hid hB
  have HNil : Hid (a = none → l = [] ∧ c = 0) := Lib.hid (fun e => ⟨hn e, hk e⟩)
  have HN1 := Lib.hid n1
  have HN2 := Lib.hid n2
  have HM := Lib.hid hm
  have HCc := Lib.hid hc
  obtain ⟨v1, hv1⟩ : ∃ v, v = (W.alloc (.cells (Go.Lib.byteCells D1).toArray 48)).alloc (.cells (Go.Lib.byteCells D2).toArray 48) := ⟨_, rfl⟩
  have hsz1 : v1.heap.size = W.heap.size + 1 + 1 := by rw [hv1]; simp
  have HA1 : Hid (v1.heap[W.heap.size]? = some (.cells (Go.Lib.byteCells D1).toArray 48 (0, 0))) := Lib.hid (by rw [hv1, (MapKept.heap_alloc _ _).2 _ (by simp)]; exact heap_last _ _)
  have HB1 : Hid (v1.heap[W.heap.size + 1]? = some (.cells (Go.Lib.byteCells D2).toArray 48 (0, 0))) := Lib.hid (by
    have h := heap_last (W.alloc (.cells (Go.Lib.byteCells D1).toArray 48)) (.cells (Go.Lib.byteCells D2).toArray 48)
    rw [World.size_alloc] at h
    rw [hv1]; exact h)
  have HG1 : Hid (Below W.heap.size W v1) := Lib.hid (by rw [hv1]; exact ((Below.refl _ W).alloc (Nat.le_refl _) _).alloc (by simp) _)
  obtain ⟨v2, hv2⟩ : ∃ v, v = v1.alloc (.cells #[.slice a l.length c] 28) := ⟨_, rfl⟩
  have hb12 : Below v1.heap.size v1 v2 := by rw [hv2]; exact (Below.refl _ _).alloc (Nat.le_refl _) _
  have HG2 : Hid (Below W.heap.size W v2) := Lib.hid (HG1.out.trans (hb12.mono HG1.out.size))
  have HA2 : Hid (v2.heap[W.heap.size]? = some (.cells (Go.Lib.byteCells D1).toArray 48 (0, 0))) := Lib.hid ((hb12.block _ (by omega)).trans HA1.out)
  have HB2 : Hid (v2.heap[W.heap.size + 1]? = some (.cells (Go.Lib.byteCells D2).toArray 48 (0, 0))) := Lib.hid ((hb12.block _ (by omega)).trans HB1.out)
  have HZ2 : Hid (W.heap.size + 1 + 1 ≤ v2.heap.size) := Lib.hid (by have := hb12.size; omega)
  have HBey := Lib.hid (beyond_one (W.heap.size + 1 + 1) a c l.length hm v2 (by rw [← hsz1, hv2, cell_of_heap (heap_last _ _)]; rfl))
  have HV2 : Hid (((W.alloc (.cells (Go.Lib.byteCells D1).toArray 48)).alloc (.cells (Go.Lib.byteCells D2).toArray 48)).alloc (.cells #[.slice a l.length c] 28) = v2) := Lib.hid (by rw [hv2, hv1])
  obtain ⟨n, hnn⟩ : ∃ n, l.length = n := ⟨_, rfl⟩
  have HL := Lib.hid hnn
  rw [hnn] at HBey HV2 hm
  rw [hnn]
  clear hT hB hn hc hk n1 n2 hv1 hv2 hsz1 hb12 hnn
  by_cases hbig : (2147483648 : Int) ≤ (n : Int) + 1
  · have hd : decide ((2147483648 : Int) ≤ (n : Int) + 1) = true := decide_eq_true hbig
    rw [hd] at HBey
    clear hd hbig
    go_enter Tryd.func12, Tryd.ntmps12
    go_wp2_with fail
    refine calls_at HV2.out ?_
    refine HBey.out.mono ?_
    rintro e w3 ⟨rfl, rfl⟩
    go_wp2_with fail
    go_ret
    exact ⟨rfl, HG2.out⟩
  · have hd : decide ((2147483648 : Int) ≤ (n : Int) + 1) = false := decide_eq_false hbig
    rw [hd] at HBey
    clear hd
    obtain ⟨i0, hi, hz0, hz1, hz2⟩ := info_parts infoByte
    obtain ⟨w3, hmk, ho3, hg3⟩ := run_make_own (P := Tryd.prog) v2 v2.heap.size 28 5 i0 (.int .u8 0) 1 Tryd.underlying28 hi hz0 hz1 .i64 .i64 (n + 1) (by rw [hz2]; omega) (by unfold maxLen; omega) (Nat.le_refl _)
    have e1 : ((n + 1 : Nat) : Int) = (n : Int) + 1 := by omega
    rw [e1] at hmk
    have hw1 : IntKind.i64.wrap ((n : Int) + 1) = (n : Int) + 1 := by rw [IntKind.wrap_i64]; omega
    have HO3 := Lib.hid ho3
    have hb3 : Below v2.heap.size v2 w3 := (Below.refl _ v2).grown hg3 (Nat.le_refl _) (fun k hk => by cases hk)
    have HG3 : Hid (Below v2.heap.size v2 w3) := Lib.hid hb3
    have HBy3 : Hid (Bytes w3.heap.size w3.heap.size a l w3) := Lib.hid ((HB.out.keep (HG2.out.trans (hb3.mono HG2.out.size))).at (HG2.out.trans (hb3.mono HG2.out.size)).size (HG2.out.trans (hb3.mono HG2.out.size)).size)
    have HNn : Hid (a = none → n = 0 ∧ c = 0) := Lib.hid (fun e => by have h := HNil.out e; rw [← HL.out, h.1]; exact ⟨rfl, h.2⟩)
    clear ho3 hg3 hb3 hi hz0 hz1 hz2 e1
    go_enter Tryd.func12, Tryd.ntmps12
    go_wp2_with fail
    refine calls_at HV2.out ?_
    refine HBey.out.mono ?_
    rintro e w4' ⟨rfl, rfl⟩
    go_wp2_with (refine wpList_append_piece rfl (.tmp 15) (.tmp 16) rfl w4'.heap.size _ 0 [] rfl HO3.out a n c n l rfl HL.out HNn.out _ _ HBy3.out (by omega) (by omega) HG3.out.size ?_)
    intro q4 k4 w4 ho4 hg4
    have HO4 : Hid (w4.ownsRow w4'.heap.size 5 1 (.slice q4 n k4) n (Go.Lib.byteCells l)) := Lib.hid ho4
    have hb4 : Below w4'.heap.size w4' w4 := HG3.out.grown hg4 HG3.out.size (fun k hk => (HO3.out.lt k hk).1)
    have HG4 : Hid (Below w4'.heap.size w4' w4) := Lib.hid hb4
    have HGW4 : Hid (Below W.heap.size W w4) := Lib.hid (HG2.out.trans (hb4.mono HG2.out.size))
    clear ho4 hg4 hb4 hmk hw1
    have HBq : Hid (Bytes w4.heap.size w4.heap.size q4 l w4 ∧ (q4 = none → l = [])) := Lib.hid (by
      obtain ⟨q9, c9, he, hnl, hb9⟩ := owns_bytes HO4.out HL.out
      simp only [Value.slice.injEq, true_and] at he
      obtain ⟨rfl, rfl⟩ := he
      exact ⟨hb9, hnl⟩)
    have hLf := bookLeaf_any q4 k4 l w4 (HT.out.below HGW4.out) HBq.out.1 (by rw [HL.out]; exact owns_cap HO4.out) HM.out
    obtain ⟨D, hD⟩ : ∃ D, shaL (0 :: l) = D := ⟨_, rfl⟩
    have HDl : Hid (D.length = 32) := Lib.hid (by rw [← hD]; exact sumI_length _ _ _)
    rw [HL.out, hD] at hLf
    unfold dig at hLf
    have HLf := Lib.hid hLf
    have HLeaf0 : Hid (∀ u, Below W.heap.size W u → Calls Tryd.prog 59 #[.slice a n c] u fun e w' => e = .returned (.agg (Go.Lib.byteCells D).toArray) ∧ Below u.heap.size u w') := Lib.hid (fun u hu => by
      have h := refLeaf_any a c l u HNil.out ((HB.out.keep hu).at hu.size hu.size) (by rw [HL.out]; omega)
      rw [HL.out, hD] at h
      exact h)
    clear hLf hD
    go_wp2_with fail
    refine HLf.out.mono ?_
    rintro e w5 ⟨rfl, hb5⟩
    obtain ⟨b8, hb8⟩ : ∃ b, w5.heap.size = b := ⟨_, rfl⟩
    have HB8 := Lib.hid hb8
    obtain ⟨v6, hv6⟩ : ∃ v, v = w5.alloc (.cells (Go.Lib.byteCells D).toArray 48) := ⟨_, rfl⟩
    have HV6 := Lib.hid ((World.setRow_alloc_new w5 (Go.Lib.byteCells zero32).toArray (Go.Lib.byteCells D).toArray 48).trans hv6.symm)
    have HG5 : Hid (Below w4.heap.size w4 v6) := Lib.hid (by rw [hv6]; exact hb5.alloc hb5.size _)
    have HR6 : Hid (v6.heap[b8]? = some (.cells (Go.Lib.byteCells D).toArray 48 (0, 0))) := Lib.hid (by rw [hv6, ← hb8]; exact heap_last _ _)
    have HI := Lib.hid (dig_size D HDl.out)
    have HZ := Lib.hid (zero_size D HDl.out)
    have H1 := Lib.hid (dig_one D)
    clear hv6 hb5 hb8
    go_wp2_with (refine wpList_store_row rfl 48 (.tmp 8) (.tmp 19) rfl w5.heap.size (Go.Lib.byteCells D).toArray rfl rfl 48 (Go.Lib.byteCells zero32).toArray (heap_last _ _) HI.out HZ.out H1.out ?_; refine wpList_world HV6.out ?_; rw [HB8.out])
    try (refine code_at HV6.out ?_)
    try rw [HB8.out]
    have HGW6 : Hid (Below W.heap.size W v6) := Lib.hid (HGW4.out.trans (HG5.out.mono HGW4.out.size))
    have HO6 : Hid (v6.ownsRow w4'.heap.size 5 1 (.slice q4 n k4) n (Go.Lib.byteCells l)) := Lib.hid (owns_keeps HO4.out (fun i _ hi => HG5.out.block i hi))
    have HA6 : Hid (v6.heap[W.heap.size]? = some (.cells (Go.Lib.byteCells D1).toArray 48 (0, 0))) := Lib.hid ((HG5.out.block _ (by have h1 := HG4.out.size; have h2 := HZ2.out; omega)).trans ((HG4.out.block _ (by have h2 := HZ2.out; omega)).trans HA2.out))
    have HB6 : Hid (v6.heap[W.heap.size + 1]? = some (.cells (Go.Lib.byteCells D2).toArray 48 (0, 0))) := Lib.hid ((HG5.out.block _ (by have h1 := HG4.out.size; have h2 := HZ2.out; omega)).trans ((HG4.out.block _ (by have h2 := HZ2.out; omega)).trans HB2.out))
    obtain ⟨SS, hSS⟩ : ∃ SS : World → Prop, SS = fun u => Below v6.heap.size v6 u := ⟨_, rfl⟩
    have HS0 : Hid (SS v6.drew) := Lib.hid (by rw [hSS]; exact below_drawn 1 (Below.refl _ _))
    have HSb : Hid (∀ u, SS u → Below v6.heap.size v6 u) := Lib.hid (by rw [hSS]; exact fun u h => h)
    have HSB : Hid (∀ u u', SS u → Below u.heap.size u u' → SS u') := Lib.hid (by rw [hSS]; exact fun u u' h hb => h.trans (hb.mono h.size))
    have HSW : Hid (∀ u, SS u → Below W.heap.size W u) := Lib.hid (fun u h => HGW6.out.trans ((HSb.out u h).mono HGW6.out.size))
    have HC8 : Hid (∀ u, SS u → u.rangeAt b8 0 (Go.Lib.byteCells D)) := Lib.hid (fun u h j y hy => by rw [cell_of_heap (((HSb.out u h).block _ (Array.getElem?_eq_some_iff.1 HR6.out).1).trans HR6.out), Nat.zero_add, List.getElem?_toArray, hy])
    have HC4 : Hid (∀ u, SS u → u.rangeAt W.heap.size 0 (Go.Lib.byteCells D1)) := Lib.hid (fun u h j y hy => by rw [cell_of_heap (((HSb.out u h).block _ (Array.getElem?_eq_some_iff.1 HA6.out).1).trans HA6.out), Nat.zero_add, List.getElem?_toArray, hy])
    have HC5 : Hid (∀ u, SS u → u.rangeAt (W.heap.size + 1) 0 (Go.Lib.byteCells D2)) := Lib.hid (fun u h j y hy => by rw [cell_of_heap (((HSb.out u h).block _ (Array.getElem?_eq_some_iff.1 HB6.out).1).trans HB6.out), Nat.zero_add, List.getElem?_toArray, hy])
    have hsz : ∀ X : List UInt8, X.length = 32 → (Tryd.prog.info? 48).map (·.size) = some (Go.Lib.byteCells X).length := fun X hX => by have h := dig_size X hX; rwa [List.size_toArray] at h
    have HYD := Lib.hid (hsz D HDl.out)
    have HY1 := Lib.hid (hsz D1 HN1.out)
    have HY2 := Lib.hid (hsz D2 HN2.out)
    have HTx1 : Hid (∀ u, SS u → (convert 28 9 (.slice q4 n k4)).run Tryd.prog u = .ok (.string ⟨l.toArray⟩) u) := Lib.hid (fun u h => by
      obtain ⟨q9, c9, he, hnl, hb9⟩ := owns_bytes (owns_keeps HO6.out (fun i _ hi => (HSb.out u h).block i hi)) HL.out
      simp only [Value.slice.injEq, true_and] at he
      obtain ⟨rfl, rfl⟩ := he
      have h2 := bytes_text k4 hb9 hnl
      rwa [HL.out] at h2)
    have HTx2 : Hid (∀ u, SS u → (convert 28 9 (.slice a n c)).run Tryd.prog u = .ok (.string ⟨l.toArray⟩) u) := Lib.hid (fun u h => by
      have h2 := bytes_text c (HB.out.keep (HSW.out u h)) (fun e => (HNil.out e).1)
      rwa [HL.out] at h2)
    have HSame : Hid (∀ (X : List UInt8) (w : World), X.length = 32 → (Op.equalIn 10000 48 (.agg (Go.Lib.byteCells X).toArray) (.agg (Go.Lib.byteCells X).toArray)).run Tryd.prog w = .ok true w) := Lib.hid (fun X w hX => dig_same X hX w)
    have HLeaf := Lib.hid (fun u (h : SS u) => HLeaf0.out u (HSW.out u h))
    obtain ⟨DP, hDP⟩ : ∃ D, shaL (1 :: (D1 ++ D2)) = D := ⟨_, rfl⟩
    have HPl : Hid (DP.length = 32) := Lib.hid (by rw [← hDP]; exact sumI_length _ _ _)
    have hPair := fun u (h : SS u) => bookPair_any D1 D2 HN1.out HN2.out u (HT.out.below (HSW.out u h))
    have hRPair := fun u (h : SS u) => refPair_any D1 D2 HN1.out HN2.out u
    rw [hDP] at hPair hRPair
    unfold dig at hPair hRPair
    have HPair := Lib.hid hPair
    have HRPair := Lib.hid hRPair
    obtain ⟨DE, hDE⟩ : ∃ D, shaL [] = D := ⟨_, rfl⟩
    have HEl : Hid (DE.length = 32) := Lib.hid (by rw [← hDE]; exact sumI_length _ _ _)
    have hEmp := fun u (h : SS u) => bookEmpty_any u (HT.out.below (HSW.out u h))
    have hREmp := fun u (h : SS u) => refEmpty_any u
    rw [hDE] at hEmp hREmp
    unfold dig at hEmp hREmp
    have HEmp := Lib.hid hEmp
    have HREmp := Lib.hid hREmp
    clear hSS hsz hDP hPair hRPair hDE hEmp hREmp
    refine wp_region_held_drew (S := SS) (by kernel_rfl) HS0.out (fun hHeld => ?_)
    refine held_load 0 _ rfl (by kernel_rfl) (by kernel_rfl) (by kernel_rfl) 48 (.tmp 8) rfl b8 0 (Go.Lib.byteCells D) _ (fun _ _ _ h => h) rfl (fun w h => HC8.out w h) Tryd.underlying48 rfl HYD.out rfl hHeld ?_
    show wpAnyH _ _ _ _ _ _ _ { tmps := _, defers := _ } _
    try simp only [Act.put, List.setIfInBounds_toArray, List.set_cons_zero, List.set_cons_succ]
    first | (refine held_take 1 _ rfl (by kernel_rfl) (by kernel_rfl) (by kernel_rfl) (v := ?_) (fun _ _ _ h => h) ?_ rfl hHeld ?_; rotate_left; focus (intro w hS; skip; go_simp; try with_reducible rfl)) | (refine held_skip 1 _ rfl (by kernel_rfl) (by kernel_rfl) (by kernel_rfl) (fun _ _ _ h => h) rfl hHeld ?_)
    show wpAnyH _ _ _ _ _ _ _ { tmps := _, defers := _ } _
    try simp only [Act.put, List.setIfInBounds_toArray, List.set_cons_zero, List.set_cons_succ]
    refine held_next 2 _ (by kernel_rfl) rfl rfl fun K hK => ?_
    go_simp
    refine (HLeaf.out _ hHeld).mono ?_
    rintro e wx ⟨rfl, hbx⟩
    show K _ _
    refine hK _ _ (HSB.out _ _ hHeld hbx) (fun hHeld => ?_)
    clear hK K hbx
    show wpAnyH _ _ _ _ _ _ _ { tmps := _, defers := _ } _
    try simp only [Act.put, List.setIfInBounds_toArray, List.set_cons_zero, List.set_cons_succ]
    first | (refine held_take 3 _ rfl (by kernel_rfl) (by kernel_rfl) (by kernel_rfl) (v := ?_) (fun _ _ _ h => h) ?_ rfl hHeld ?_; rotate_left; focus (intro w hS; have h := HSame.out D w HDl.out; go_simp; try with_reducible rfl)) | (refine held_skip 3 _ rfl (by kernel_rfl) (by kernel_rfl) (by kernel_rfl) (fun _ _ _ h => h) rfl hHeld ?_)
    show wpAnyH _ _ _ _ _ _ _ { tmps := _, defers := _ } _
    try simp only [Act.put, List.setIfInBounds_toArray, List.set_cons_zero, List.set_cons_succ]
    first | (refine held_take 4 _ rfl (by kernel_rfl) (by kernel_rfl) (by kernel_rfl) (v := ?_) (fun _ _ _ h => h) ?_ rfl hHeld ?_; rotate_left; focus (intro w hS; skip; go_simp; try with_reducible rfl)) | (refine held_skip 4 _ rfl (by kernel_rfl) (by kernel_rfl) (by kernel_rfl) (fun _ _ _ h => h) rfl hHeld ?_)
    show wpAnyH _ _ _ _ _ _ _ { tmps := _, defers := _ } _
    try simp only [Act.put, List.setIfInBounds_toArray, List.set_cons_zero, List.set_cons_succ]
    first | (refine held_take 5 _ rfl (by kernel_rfl) (by kernel_rfl) (by kernel_rfl) (v := ?_) (fun _ _ _ h => h) ?_ rfl hHeld ?_; rotate_left; focus (intro w hS; skip; go_simp; try with_reducible rfl)) | (refine held_skip 5 _ rfl (by kernel_rfl) (by kernel_rfl) (by kernel_rfl) (fun _ _ _ h => h) rfl hHeld ?_)
    show wpAnyH _ _ _ _ _ _ _ { tmps := _, defers := _ } _
    try simp only [Act.put, List.setIfInBounds_toArray, List.set_cons_zero, List.set_cons_succ]
    first | (refine held_take 6 _ rfl (by kernel_rfl) (by kernel_rfl) (by kernel_rfl) (v := ?_) (fun _ _ _ h => h) ?_ rfl hHeld ?_; rotate_left; focus (intro w hS; have h := HTx1.out w hS; go_simp; try with_reducible rfl)) | (refine held_skip 6 _ rfl (by kernel_rfl) (by kernel_rfl) (by kernel_rfl) (fun _ _ _ h => h) rfl hHeld ?_)
    show wpAnyH _ _ _ _ _ _ _ { tmps := _, defers := _ } _
    try simp only [Act.put, List.setIfInBounds_toArray, List.set_cons_zero, List.set_cons_succ]
    first | (refine held_take 7 _ rfl (by kernel_rfl) (by kernel_rfl) (by kernel_rfl) (v := ?_) (fun _ _ _ h => h) ?_ rfl hHeld ?_; rotate_left; focus (intro w hS; skip; go_simp; try with_reducible rfl)) | (refine held_skip 7 _ rfl (by kernel_rfl) (by kernel_rfl) (by kernel_rfl) (fun _ _ _ h => h) rfl hHeld ?_)
    show wpAnyH _ _ _ _ _ _ _ { tmps := _, defers := _ } _
    try simp only [Act.put, List.setIfInBounds_toArray, List.set_cons_zero, List.set_cons_succ]
    first | (refine held_take 8 _ rfl (by kernel_rfl) (by kernel_rfl) (by kernel_rfl) (v := ?_) (fun _ _ _ h => h) ?_ rfl hHeld ?_; rotate_left; focus (intro w hS; have h := HTx2.out w hS; go_simp; try with_reducible rfl)) | (refine held_skip 8 _ rfl (by kernel_rfl) (by kernel_rfl) (by kernel_rfl) (fun _ _ _ h => h) rfl hHeld ?_)
    show wpAnyH _ _ _ _ _ _ _ { tmps := _, defers := _ } _
    try simp only [Act.put, List.setIfInBounds_toArray, List.set_cons_zero, List.set_cons_succ]
    first | (refine held_take 9 _ rfl (by kernel_rfl) (by kernel_rfl) (by kernel_rfl) (v := ?_) (fun _ _ _ h => h) ?_ rfl hHeld ?_; rotate_left; focus (intro w hS; skip; go_simp; try with_reducible rfl)) | (refine held_skip 9 _ rfl (by kernel_rfl) (by kernel_rfl) (by kernel_rfl) (fun _ _ _ h => h) rfl hHeld ?_)
    show wpAnyH _ _ _ _ _ _ _ { tmps := _, defers := _ } _
    try simp only [Act.put, List.setIfInBounds_toArray, List.set_cons_zero, List.set_cons_succ]
    first | (refine held_take 10 _ rfl (by kernel_rfl) (by kernel_rfl) (by kernel_rfl) (v := ?_) (fun _ _ _ h => h) ?_ rfl hHeld ?_; rotate_left; focus (intro w hS; skip; go_simp; try with_reducible rfl)) | (refine held_skip 10 _ rfl (by kernel_rfl) (by kernel_rfl) (by kernel_rfl) (fun _ _ _ h => h) rfl hHeld ?_)
    show wpAnyH _ _ _ _ _ _ _ { tmps := _, defers := _ } _
    try simp only [Act.put, List.setIfInBounds_toArray, List.set_cons_zero, List.set_cons_succ]
    first | (refine held_take 11 _ rfl (by kernel_rfl) (by kernel_rfl) (by kernel_rfl) (v := ?_) (fun _ _ _ h => h) ?_ rfl hHeld ?_; rotate_left; focus (intro w hS; skip; go_simp; try with_reducible rfl)) | (refine held_skip 11 _ rfl (by kernel_rfl) (by kernel_rfl) (by kernel_rfl) (fun _ _ _ h => h) rfl hHeld ?_)
    show wpAnyH _ _ _ _ _ _ _ { tmps := _, defers := _ } _
    try simp only [Act.put, List.setIfInBounds_toArray, List.set_cons_zero, List.set_cons_succ]
    refine held_load 12 _ rfl (by kernel_rfl) (by kernel_rfl) (by kernel_rfl) 48 (.tmp 4) rfl W.heap.size 0 (Go.Lib.byteCells D1) _ (fun _ _ _ h => h) rfl (fun w h => HC4.out w h) Tryd.underlying48 rfl HY1.out rfl hHeld ?_
    show wpAnyH _ _ _ _ _ _ _ { tmps := _, defers := _ } _
    try simp only [Act.put, List.setIfInBounds_toArray, List.set_cons_zero, List.set_cons_succ]
    refine held_load 13 _ rfl (by kernel_rfl) (by kernel_rfl) (by kernel_rfl) 48 (.tmp 5) rfl (W.heap.size + 1) 0 (Go.Lib.byteCells D2) _ (fun _ _ _ h => h) rfl (fun w h => HC5.out w h) Tryd.underlying48 rfl HY2.out rfl hHeld ?_
    show wpAnyH _ _ _ _ _ _ _ { tmps := _, defers := _ } _
    try simp only [Act.put, List.setIfInBounds_toArray, List.set_cons_zero, List.set_cons_succ]
    refine held_load 15 _ rfl (by kernel_rfl) (by kernel_rfl) (by kernel_rfl) 48 (.tmp 4) rfl W.heap.size 0 (Go.Lib.byteCells D1) _ (fun _ _ _ h => h) rfl (fun w h => HC4.out w h) Tryd.underlying48 rfl HY1.out rfl hHeld ?_
    show wpAnyH _ _ _ _ _ _ _ { tmps := _, defers := _ } _
    try simp only [Act.put, List.setIfInBounds_toArray, List.set_cons_zero, List.set_cons_succ]
    refine held_load 16 _ rfl (by kernel_rfl) (by kernel_rfl) (by kernel_rfl) 48 (.tmp 5) rfl (W.heap.size + 1) 0 (Go.Lib.byteCells D2) _ (fun _ _ _ h => h) rfl (fun w h => HC5.out w h) Tryd.underlying48 rfl HY2.out rfl hHeld ?_
    show wpAnyH _ _ _ _ _ _ _ { tmps := _, defers := _ } _
    try simp only [Act.put, List.setIfInBounds_toArray, List.set_cons_zero, List.set_cons_succ]
    refine held_next 14 _ (by kernel_rfl) rfl rfl fun K hK => ?_
    go_simp
    refine (HPair.out _ hHeld).mono ?_
    rintro e wx ⟨rfl, hbx⟩
    show K _ _
    refine hK _ _ (HSB.out _ _ hHeld hbx) (fun hHeld => ?_)
    clear hK K hbx
    show wpAnyH _ _ _ _ _ _ _ { tmps := _, defers := _ } _
    try simp only [Act.put, List.setIfInBounds_toArray, List.set_cons_zero, List.set_cons_succ]
    refine held_next 17 _ (by kernel_rfl) rfl rfl fun K hK => ?_
    go_simp
    refine (HRPair.out _ hHeld).mono ?_
    rintro e wx ⟨rfl, hbx⟩
    show K _ _
    refine hK _ _ (HSB.out _ _ hHeld hbx) (fun hHeld => ?_)
    clear hK K hbx
    show wpAnyH _ _ _ _ _ _ _ { tmps := _, defers := _ } _
    try simp only [Act.put, List.setIfInBounds_toArray, List.set_cons_zero, List.set_cons_succ]
    first | (refine held_take 18 _ rfl (by kernel_rfl) (by kernel_rfl) (by kernel_rfl) (v := ?_) (fun _ _ _ h => h) ?_ rfl hHeld ?_; rotate_left; focus (intro w hS; have h := HSame.out DP w HPl.out; go_simp; try with_reducible rfl)) | (refine held_skip 18 _ rfl (by kernel_rfl) (by kernel_rfl) (by kernel_rfl) (fun _ _ _ h => h) rfl hHeld ?_)
    show wpAnyH _ _ _ _ _ _ _ { tmps := _, defers := _ } _
    try simp only [Act.put, List.setIfInBounds_toArray, List.set_cons_zero, List.set_cons_succ]
    first | (refine held_take 19 _ rfl (by kernel_rfl) (by kernel_rfl) (by kernel_rfl) (v := ?_) (fun _ _ _ h => h) ?_ rfl hHeld ?_; rotate_left; focus (intro w hS; skip; go_simp; try with_reducible rfl)) | (refine held_skip 19 _ rfl (by kernel_rfl) (by kernel_rfl) (by kernel_rfl) (fun _ _ _ h => h) rfl hHeld ?_)
    show wpAnyH _ _ _ _ _ _ _ { tmps := _, defers := _ } _
    try simp only [Act.put, List.setIfInBounds_toArray, List.set_cons_zero, List.set_cons_succ]
    first | (refine held_take 20 _ rfl (by kernel_rfl) (by kernel_rfl) (by kernel_rfl) (v := ?_) (fun _ _ _ h => h) ?_ rfl hHeld ?_; rotate_left; focus (intro w hS; skip; go_simp; try with_reducible rfl)) | (refine held_skip 20 _ rfl (by kernel_rfl) (by kernel_rfl) (by kernel_rfl) (fun _ _ _ h => h) rfl hHeld ?_)
    show wpAnyH _ _ _ _ _ _ _ { tmps := _, defers := _ } _
    try simp only [Act.put, List.setIfInBounds_toArray, List.set_cons_zero, List.set_cons_succ]
    refine held_next 21 _ (by kernel_rfl) rfl rfl fun K hK => ?_
    go_simp
    refine (HEmp.out _ hHeld).mono ?_
    rintro e wx ⟨rfl, hbx⟩
    show K _ _
    refine hK _ _ (HSB.out _ _ hHeld hbx) (fun hHeld => ?_)
    clear hK K hbx
    show wpAnyH _ _ _ _ _ _ _ { tmps := _, defers := _ } _
    try simp only [Act.put, List.setIfInBounds_toArray, List.set_cons_zero, List.set_cons_succ]
    refine held_next 22 _ (by kernel_rfl) rfl rfl fun K hK => ?_
    go_simp
    refine (HREmp.out _ hHeld).mono ?_
    rintro e wx ⟨rfl, hbx⟩
    show K _ _
    refine hK _ _ (HSB.out _ _ hHeld hbx) (fun hHeld => ?_)
    clear hK K hbx
    show wpAnyH _ _ _ _ _ _ _ { tmps := _, defers := _ } _
    try simp only [Act.put, List.setIfInBounds_toArray, List.set_cons_zero, List.set_cons_succ]
    first | (refine held_take 23 _ rfl (by kernel_rfl) (by kernel_rfl) (by kernel_rfl) (v := ?_) (fun _ _ _ h => h) ?_ rfl hHeld ?_; rotate_left; focus (intro w hS; have h := HSame.out DE w HEl.out; go_simp; try with_reducible rfl)) | (refine held_skip 23 _ rfl (by kernel_rfl) (by kernel_rfl) (by kernel_rfl) (fun _ _ _ h => h) rfl hHeld ?_)
    show wpAnyH _ _ _ _ _ _ _ { tmps := _, defers := _ } _
    try simp only [Act.put, List.setIfInBounds_toArray, List.set_cons_zero, List.set_cons_succ]
    first | (refine held_take 24 _ rfl (by kernel_rfl) (by kernel_rfl) (by kernel_rfl) (v := ?_) (fun _ _ _ h => h) ?_ rfl hHeld ?_; rotate_left; focus (intro w hS; skip; go_simp; try with_reducible rfl)) | (refine held_skip 24 _ rfl (by kernel_rfl) (by kernel_rfl) (by kernel_rfl) (fun _ _ _ h => h) rfl hHeld ?_)
    show wpAnyH _ _ _ _ _ _ _ { tmps := _, defers := _ } _
    try simp only [Act.put, List.setIfInBounds_toArray, List.set_cons_zero, List.set_cons_succ]
    first | (refine held_take 25 _ rfl (by kernel_rfl) (by kernel_rfl) (by kernel_rfl) (v := ?_) (fun _ _ _ h => h) ?_ rfl hHeld ?_; rotate_left; focus (intro w hS; skip; go_simp; try with_reducible rfl)) | (refine held_skip 25 _ rfl (by kernel_rfl) (by kernel_rfl) (by kernel_rfl) (fun _ _ _ h => h) rfl hHeld ?_)
    show wpAnyH _ _ _ _ _ _ _ { tmps := _, defers := _ } _
    try simp only [Act.put, List.setIfInBounds_toArray, List.set_cons_zero, List.set_cons_succ]
    refine wpAnyH_done (by kernel_rfl) ?_ _
    have HF := Lib.hid (HSW.out _ hHeld)
    clear hHeld
    go_wp2_with fail
    go_ret
    exact ⟨rfl, HF.out⟩
end Go.Proofs.YtjjahcidncnogaaDoor
