/- HmacSums, walked. -/
import Derived.Test.YtjjahcidncnogaaDoorOuter
import Derived.Test.YtjjahcidncnogaaDoorMacWake7
namespace Go.Proofs.YtjjahcidncnogaaDoor
open Go.ChangeShapes Go.WideShapes Go.ChangeAt Go.RowKit Go.Lib

theorem owns_shortR {w : World} {B n k g c : Nat} {xs : List Value} {e : TypeId} (h : w.ownsRow B e 1 (.slice (some ⟨g, 0, none⟩) n c) n xs) (hk : k ≤ n) : w.ownsRow B e 1 (.slice (some ⟨g, 0, none⟩) k c) k (xs.take k) := by
  refine ⟨by rw [List.length_take]; have := h.1; omega, ?_⟩
  rcases h.2 with ⟨hv, hn⟩ | ⟨g', cap, cur, hv, hB, hg, hn, hm, hs, ht⟩
  · cases hv
  · simp only [Value.slice.injEq] at hv
    obtain ⟨hv1, -, rfl⟩ := hv
    cases hv1
    exact .inr ⟨g, c, cur, rfl, hB, hg, by omega, hm, hs, by rw [← ht, Nat.mul_one, Nat.mul_one, List.take_take, Nat.min_eq_left hk]⟩

set_option maxRecDepth 100000 in
set_option maxHeartbeats 16000000 in
theorem hmacSums_walk (a : Option Addr) (c : Nat) (l : List UInt8) (q : Option Addr) (N cap : Nat) (P : Nat → Option Addr) (C : Nat → Nat) (L : Nat → List UInt8) (W : World) (hT : Tab W) (hn : a = none → l = []) (hB : Bytes W.heap.size W.heap.size a l W) (hm : l.length ≤ 140737488351232) (_hc : l.length ≤ c) (hk : a = none → c = 0)
    (hnil : ∀ i, i < N → P i = none → L i = [] ∧ C i = 0) (hP : Parts W.heap.size q N P C L W) (hz : (cat L N).length + N ≤ 1048576) :
    Calls Tryd.prog 5 #[.slice a l.length c, .slice q N cap] W fun e w' => e = .returned (.bool true) ∧ Below W.heap.size W w' := by
  have HT := Lib.hid hT
  have HB := Lib.hid hB
  have HM := Lib.hid hm
  have HNa : Hid (a = none → l = [] ∧ c = 0) := Lib.hid (fun e => ⟨hn e, hk e⟩)
  have HNil := Lib.hid hnil
  have HP := Lib.hid hP
  have HZ := Lib.hid hz
  have HN : Hid (N ≤ 1048576) := Lib.hid (by omega)
  have HL1 := Lib.hid (lent_any a c l W HNa.out hB hm)
  obtain ⟨D, hD⟩ : ∃ D, hmacL l (cat L N) = D := ⟨_, rfl⟩
  have HD := Lib.hid hD
  have HDl : Hid (D.length = 32) := Lib.hid (by rw [← hD]; exact sumI_length _ _ _)
  have HSame : Hid (∀ (X : List UInt8) (w : World), X.length = 32 → (Op.equalIn 10000 48 (.agg (Go.Lib.byteCells X).toArray) (.agg (Go.Lib.byteCells X).toArray)).run Tryd.prog w = .ok true w) := Lib.hid (fun X w hX => dig_same X hX w)
  obtain ⟨n, hnn⟩ : ∃ n, l.length = n := ⟨_, rfl⟩
  have HNN := Lib.hid hnn
  rw [hnn] at HL1
  rw [hnn]
  clear hT hB hn hm _hc hk hnil hP hz hD hnn
  go_enter Tryd.func5, Tryd.ntmps5
  go_wp2_with fail
  refine HL1.out.mono ?_
  rintro e w1 ⟨gk, ck, rfl, -, hlk, hb1⟩
  have HLk := Lib.hid hlk
  have HG1 := Lib.hid hb1
  have HLA := Lib.hid (lentAll_any q N cap HN.out P C L w1 ((HP.out.keep hb1).wide hb1.size) HNil.out)
  clear hlk hb1
  go_wp2_with fail
  refine HLA.out.mono ?_
  rintro e w2 ⟨qa, ca, xs, rfl, hxs, ho2, hs2, hb2⟩
  have HXs := Lib.hid hxs
  have HO2 := Lib.hid ho2
  have HS2 := Lib.hid hs2
  have HG2 := Lib.hid hb2
  have HOut := Lib.hid (outer_any w1.heap.size qa N ca HN.out _ L xs w2 ho2 hxs hs2)
  clear hxs ho2 hs2 hb2
  go_wp2_with fail
  refine HOut.out.mono ?_
  rintro e w3 ⟨g3, k3, ys, rfl, hys, ho3, ht3, hb3⟩
  have HYs := Lib.hid hys
  have HO3 := Lib.hid ho3
  have HT3 := Lib.hid ht3
  have HG3 := Lib.hid hb3
  have hgw3 : Below W.heap.size W w3 := HG1.out.trans ((HG2.out.trans (hb3.mono HG2.out.size)).mono HG1.out.size)
  have hOf := ref7Of_any a c l q N cap HN.out P C L w3 ((HB.out.keep hgw3).at hgw3.size hgw3.size) HM.out ((HP.out.keep hgw3).wide hgw3.size) HNil.out (by have := HZ.out; omega)
  rw [HD.out, HNN.out] at hOf
  unfold dig at hOf
  have HOf := Lib.hid hOf
  have HGW3 := Lib.hid hgw3
  clear hys ho3 ht3 hb3 hgw3 hOf
  go_wp2_with fail
  refine HOf.out.mono ?_
  rintro e w4 ⟨rfl, hb4⟩
  obtain ⟨b9, hb9⟩ : ∃ b, w4.heap.size = b := ⟨_, rfl⟩
  have HB9 := Lib.hid hb9
  obtain ⟨v5, hv5⟩ : ∃ v, v = w4.alloc (.cells (Go.Lib.byteCells D).toArray 47) := ⟨_, rfl⟩
  have HV5 := Lib.hid ((World.setRow_alloc_new w4 (Go.Lib.byteCells zero32).toArray (Go.Lib.byteCells D).toArray 47).trans hv5.symm)
  have hb35 : Below w3.heap.size w3 v5 := by rw [hv5]; exact hb4.alloc hb4.size _
  have HR5 : Hid (v5.heap[b9]? = some (.cells (Go.Lib.byteCells D).toArray 47 (0, 0))) := Lib.hid (by rw [hv5, ← hb9]; exact heap_last _ _)
  have hb25 : Below w2.heap.size w2 v5 := HG3.out.trans (hb35.mono HG3.out.size)
  have hb15 : Below w1.heap.size w1 v5 := HG2.out.trans (hb25.mono HG2.out.size)
  have HGW5 : Hid (Below W.heap.size W v5) := Lib.hid (HG1.out.trans (hb15.mono HG1.out.size))
  have HLk5 : Hid (Lent v5 gk ck l) := Lib.hid (HLk.out.below hb15)
  have HO25 : Hid (v5.ownsRow w1.heap.size 28 1 (.slice qa N ca) N xs) := Lib.hid (keeps_row HO2.out (fun j hj => hb25.block j hj))
  have HS25 : Hid (Spares w1.heap.size (List.replicate 70 165) L xs v5) := Lib.hid (HS2.out.below hb25)
  have HO35 : Hid (v5.ownsRow w2.heap.size 28 1 (.slice (some ⟨g3, 0, none⟩) (N + 20) k3) (N + 20) (xs ++ ys)) := Lib.hid (keeps_row HO3.out (fun j hj => hb35.block j hj))
  have HT35 : Hid (Tildes ys v5) := Lib.hid (HT3.out.below hb35)
  have HIz := Lib.hid ((by kernel_rfl : (Tryd.prog.info? 47).map (·.size) = some 32).trans (show some 32 = some (Go.Lib.byteCells D).toArray.size by rw [List.size_toArray, bc_len, HDl.out]))
  have H1z := Lib.hid (dig_one D)
  have HZz : Hid ((Go.Lib.byteCells zero32).toArray.size = (Go.Lib.byteCells D).toArray.size) := Lib.hid (by rw [List.size_toArray, List.size_toArray, bc_len, bc_len, HDl.out]; rfl)
  clear hv5 hb4 hb35 hb25 hb15 hb9
  go_wp2_with (refine wpList_store_row rfl 47 (.tmp 9) (.tmp 24) rfl w4.heap.size (Go.Lib.byteCells D).toArray rfl rfl 47 (Go.Lib.byteCells zero32).toArray (heap_last _ _) HIz.out HZz.out H1z.out ?_; refine wpList_world HV5.out ?_; rw [HB9.out])
  obtain ⟨SS, hSS⟩ : ∃ SS : World → Prop, SS = fun u => Below v5.heap.size v5 u := ⟨_, rfl⟩
  have HS0 : Hid (SS v5.drew) := Lib.hid (by rw [hSS]; exact below_drawn 1 (Below.refl _ _))
  have HSb : Hid (∀ u, SS u → Below v5.heap.size v5 u) := Lib.hid (by rw [hSS]; exact fun u h => h)
  have HSB : Hid (∀ u u', SS u → Below u.heap.size u u' → SS u') := Lib.hid (by rw [hSS]; exact fun u u' h hb => h.trans (hb.mono h.size))
  have HSW : Hid (∀ u, SS u → Below W.heap.size W u) := Lib.hid (fun u h => HGW5.out.trans ((HSb.out u h).mono HGW5.out.size))
  have HC9 : Hid (∀ u, SS u → u.rangeAt b9 0 (Go.Lib.byteCells D)) := Lib.hid (fun u h j y hy => by rw [cell_of_heap (((HSb.out u h).block _ (Array.getElem?_eq_some_iff.1 HR5.out).1).trans HR5.out), Nat.zero_add, List.getElem?_toArray, hy])
  have HYD : Hid ((Tryd.prog.info? 47).map (·.size) = some (Go.Lib.byteCells D).length) := Lib.hid (by have h := HIz.out; rwa [List.size_toArray] at h)
  have HSum : Hid (∀ u, SS u → Calls Tryd.prog 32 #[.slice (some ⟨gk, 0, none⟩) n ck, .slice (some ⟨g3, 0, none⟩) N k3] u fun e w' => e = .returned (.agg (Go.Lib.byteCells D).toArray) ∧ Below u.heap.size u w') := Lib.hid (fun u h => by
    have hb := HSb.out u h
    have ho : u.ownsRow w2.heap.size 28 1 (.slice (some ⟨g3, 0, none⟩) N k3) N xs := by
      have h1 := owns_shortR (keeps_row HO35.out (fun j hj => hb.block j hj)) (show N ≤ N + 20 by omega)
      rwa [List.take_append_of_le_length (by rw [HXs.out]; exact Nat.le_refl _), List.take_of_length_le (by rw [HXs.out]; exact Nat.le_refl _)] at h1
    obtain ⟨P1, C1, hp1, -, -⟩ := (HS25.out.below hb).parts ho HXs.out (fun i hi => by have := cat_one_of L hi; have := HZ.out; omega)
    have hl := HLk5.out.below hb
    have hs := hmacSum_any (some ⟨gk, 0, none⟩) ck l (some ⟨g3, 0, none⟩) N k3 (by have := HN.out; omega) P1 C1 L u (HT.out.below (HSW.out u h)) hl.bytes (by have := hl.fit; omega) HM.out hp1 (by have := HZ.out; omega)
    rw [HD.out, HNN.out] at hs
    exact hs)
  have HKept : Hid (∀ u, SS u → Calls Tryd.prog 33 #[.slice (some ⟨gk, 0, none⟩) n ck, .slice a n c] u fun e w' => e = .returned (.bool true) ∧ w' = u) := Lib.hid (fun u h => by
    have hw := HSW.out u h
    have hs := kept_any gk ck a c l u (fun e => (HNa.out e).1) ((HB.out.keep hw).at hw.size hw.size) HM.out (HLk5.out.below (HSb.out u h))
    rw [HNN.out] at hs
    exact hs)
  have HKeptAll : Hid (∀ u, SS u → Calls Tryd.prog 34 #[.slice qa N ca, .slice q N cap] u fun e w' => e = .returned (.bool true) ∧ Below u.heap.size u w') := Lib.hid (fun u h => by
    have hb := HSb.out u h
    have hw := HSW.out u h
    exact keptAll_any w1.heap.size qa N ca HN.out L xs q cap P C u (keeps_row HO25.out (fun j hj => hb.block j hj)) HXs.out (HS25.out.below hb) ((HP.out.keep hw).wide hw.size) HNil.out)
  have HStays : Hid (∀ u, SS u → Calls Tryd.prog 35 #[.slice (some ⟨g3, 0, none⟩) (N + 20) k3, .slice q N cap] u fun e w' => e = .returned (.bool true) ∧ Below u.heap.size u w') := Lib.hid (fun u h => by
    have hb := HSb.out u h
    have hw := HSW.out u h
    exact stays_any w2.heap.size g3 N k3 HN.out (List.replicate 70 165) L xs ys q cap P C u (keeps_row HO35.out (fun j hj => hb.block j hj)) HXs.out HYs.out w1.heap.size (HS25.out.below hb) (HT35.out.below hb) ((HP.out.keep hw).wide hw.size) HNil.out)
  clear hSS
  refine wp_region_held_drew (S := SS) (by kernel_rfl) HS0.out (fun hHeld => ?_)
  first | (refine held_take 0 _ rfl (by kernel_rfl) (by kernel_rfl) (by kernel_rfl) (v := ?_) (fun _ _ _ h => h) ?_ rfl hHeld ?_; rotate_left; focus (intro w hS; skip; go_simp; try with_reducible rfl)) | (refine held_skip 0 _ rfl (by kernel_rfl) (by kernel_rfl) (by kernel_rfl) (fun _ _ _ h => h) rfl hHeld ?_)
  show wpAnyH _ _ _ _ _ _ _ { tmps := _, defers := _ } _
  try dsimp only
  try simp only [List.setIfInBounds_toArray]
  try simp only [List.set_cons_succ]
  try simp only [List.set_cons_zero]
  first | (refine held_take 1 _ rfl (by kernel_rfl) (by kernel_rfl) (by kernel_rfl) (v := ?_) (fun _ _ _ h => h) ?_ rfl hHeld ?_; rotate_left; focus (intro w hS; skip; go_simp; try with_reducible rfl)) | (refine held_skip 1 _ rfl (by kernel_rfl) (by kernel_rfl) (by kernel_rfl) (fun _ _ _ h => h) rfl hHeld ?_)
  show wpAnyH _ _ _ _ _ _ _ { tmps := _, defers := _ } _
  try dsimp only
  try simp only [List.setIfInBounds_toArray]
  try simp only [List.set_cons_succ]
  try simp only [List.set_cons_zero]
  refine held_load 3 _ rfl (by kernel_rfl) (by kernel_rfl) (by kernel_rfl) 47 (.tmp 9) rfl b9 0 (Go.Lib.byteCells D) _ (fun _ _ _ h => h) rfl (fun w h => HC9.out w h) Tryd.underlying47 rfl HYD.out rfl hHeld ?_
  show wpAnyH _ _ _ _ _ _ _ { tmps := _, defers := _ } _
  try dsimp only
  try simp only [List.setIfInBounds_toArray]
  try simp only [List.set_cons_succ]
  try simp only [List.set_cons_zero]
  refine held_next 2 _ (by kernel_rfl) rfl rfl fun K hK => ?_
  go_simp
  refine (HSum.out _ hHeld).mono ?_
  rintro e wx ⟨rfl, hbx⟩
  show K _ _
  refine hK _ _ (HSB.out _ _ hHeld hbx) (fun hHeld => ?_)
  clear hK K hbx
  show wpAnyH _ _ _ _ _ _ _ { tmps := _, defers := _ } _
  try dsimp only
  try simp only [List.setIfInBounds_toArray]
  try simp only [List.set_cons_succ]
  try simp only [List.set_cons_zero]
  first | (refine held_take 4 _ rfl (by kernel_rfl) (by kernel_rfl) (by kernel_rfl) (v := ?_) (fun _ _ _ h => h) ?_ rfl hHeld ?_; rotate_left; focus (intro w hS; have h := HSame.out D w HDl.out; go_simp; try with_reducible rfl)) | (refine held_skip 4 _ rfl (by kernel_rfl) (by kernel_rfl) (by kernel_rfl) (fun _ _ _ h => h) rfl hHeld ?_)
  show wpAnyH _ _ _ _ _ _ _ { tmps := _, defers := _ } _
  try dsimp only
  try simp only [List.setIfInBounds_toArray]
  try simp only [List.set_cons_succ]
  try simp only [List.set_cons_zero]
  first | (refine held_take 5 _ rfl (by kernel_rfl) (by kernel_rfl) (by kernel_rfl) (v := ?_) (fun _ _ _ h => h) ?_ rfl hHeld ?_; rotate_left; focus (intro w hS; skip; go_simp; try with_reducible rfl)) | (refine held_skip 5 _ rfl (by kernel_rfl) (by kernel_rfl) (by kernel_rfl) (fun _ _ _ h => h) rfl hHeld ?_)
  show wpAnyH _ _ _ _ _ _ _ { tmps := _, defers := _ } _
  try dsimp only
  try simp only [List.setIfInBounds_toArray]
  try simp only [List.set_cons_succ]
  try simp only [List.set_cons_zero]
  first | (refine held_take 6 _ rfl (by kernel_rfl) (by kernel_rfl) (by kernel_rfl) (v := ?_) (fun _ _ _ h => h) ?_ rfl hHeld ?_; rotate_left; focus (intro w hS; skip; go_simp; try with_reducible rfl)) | (refine held_skip 6 _ rfl (by kernel_rfl) (by kernel_rfl) (by kernel_rfl) (fun _ _ _ h => h) rfl hHeld ?_)
  show wpAnyH _ _ _ _ _ _ _ { tmps := _, defers := _ } _
  try dsimp only
  try simp only [List.setIfInBounds_toArray]
  try simp only [List.set_cons_succ]
  try simp only [List.set_cons_zero]
  first | (refine held_take 7 _ rfl (by kernel_rfl) (by kernel_rfl) (by kernel_rfl) (v := ?_) (fun _ _ _ h => h) ?_ rfl hHeld ?_; rotate_left; focus (intro w hS; skip; go_simp; try with_reducible rfl)) | (refine held_skip 7 _ rfl (by kernel_rfl) (by kernel_rfl) (by kernel_rfl) (fun _ _ _ h => h) rfl hHeld ?_)
  show wpAnyH _ _ _ _ _ _ _ { tmps := _, defers := _ } _
  try dsimp only
  try simp only [List.setIfInBounds_toArray]
  try simp only [List.set_cons_succ]
  try simp only [List.set_cons_zero]
  refine held_load 9 _ rfl (by kernel_rfl) (by kernel_rfl) (by kernel_rfl) 47 (.tmp 9) rfl b9 0 (Go.Lib.byteCells D) _ (fun _ _ _ h => h) rfl (fun w h => HC9.out w h) Tryd.underlying47 rfl HYD.out rfl hHeld ?_
  show wpAnyH _ _ _ _ _ _ _ { tmps := _, defers := _ } _
  try dsimp only
  try simp only [List.setIfInBounds_toArray]
  try simp only [List.set_cons_succ]
  try simp only [List.set_cons_zero]
  refine held_next 8 _ (by kernel_rfl) rfl rfl fun K hK => ?_
  go_simp
  refine (HSum.out _ hHeld).mono ?_
  rintro e wx ⟨rfl, hbx⟩
  show K _ _
  refine hK _ _ (HSB.out _ _ hHeld hbx) (fun hHeld => ?_)
  clear hK K hbx
  show wpAnyH _ _ _ _ _ _ _ { tmps := _, defers := _ } _
  try dsimp only
  try simp only [List.setIfInBounds_toArray]
  try simp only [List.set_cons_succ]
  try simp only [List.set_cons_zero]
  first | (refine held_take 10 _ rfl (by kernel_rfl) (by kernel_rfl) (by kernel_rfl) (v := ?_) (fun _ _ _ h => h) ?_ rfl hHeld ?_; rotate_left; focus (intro w hS; have h := HSame.out D w HDl.out; go_simp; try with_reducible rfl)) | (refine held_skip 10 _ rfl (by kernel_rfl) (by kernel_rfl) (by kernel_rfl) (fun _ _ _ h => h) rfl hHeld ?_)
  show wpAnyH _ _ _ _ _ _ _ { tmps := _, defers := _ } _
  try dsimp only
  try simp only [List.setIfInBounds_toArray]
  try simp only [List.set_cons_succ]
  try simp only [List.set_cons_zero]
  first | (refine held_take 11 _ rfl (by kernel_rfl) (by kernel_rfl) (by kernel_rfl) (v := ?_) (fun _ _ _ h => h) ?_ rfl hHeld ?_; rotate_left; focus (intro w hS; skip; go_simp; try with_reducible rfl)) | (refine held_skip 11 _ rfl (by kernel_rfl) (by kernel_rfl) (by kernel_rfl) (fun _ _ _ h => h) rfl hHeld ?_)
  show wpAnyH _ _ _ _ _ _ _ { tmps := _, defers := _ } _
  try dsimp only
  try simp only [List.setIfInBounds_toArray]
  try simp only [List.set_cons_succ]
  try simp only [List.set_cons_zero]
  first | (refine held_take 12 _ rfl (by kernel_rfl) (by kernel_rfl) (by kernel_rfl) (v := ?_) (fun _ _ _ h => h) ?_ rfl hHeld ?_; rotate_left; focus (intro w hS; skip; go_simp; try with_reducible rfl)) | (refine held_skip 12 _ rfl (by kernel_rfl) (by kernel_rfl) (by kernel_rfl) (fun _ _ _ h => h) rfl hHeld ?_)
  show wpAnyH _ _ _ _ _ _ _ { tmps := _, defers := _ } _
  try dsimp only
  try simp only [List.setIfInBounds_toArray]
  try simp only [List.set_cons_succ]
  try simp only [List.set_cons_zero]
  first | (refine held_take 13 _ rfl (by kernel_rfl) (by kernel_rfl) (by kernel_rfl) (v := ?_) (fun _ _ _ h => h) ?_ rfl hHeld ?_; rotate_left; focus (intro w hS; skip; go_simp; try with_reducible rfl)) | (refine held_skip 13 _ rfl (by kernel_rfl) (by kernel_rfl) (by kernel_rfl) (fun _ _ _ h => h) rfl hHeld ?_)
  show wpAnyH _ _ _ _ _ _ _ { tmps := _, defers := _ } _
  try dsimp only
  try simp only [List.setIfInBounds_toArray]
  try simp only [List.set_cons_succ]
  try simp only [List.set_cons_zero]
  first | (refine held_take 14 _ rfl (by kernel_rfl) (by kernel_rfl) (by kernel_rfl) (v := ?_) (fun _ _ _ h => h) ?_ rfl hHeld ?_; rotate_left; focus (intro w hS; skip; go_simp; try with_reducible rfl)) | (refine held_skip 14 _ rfl (by kernel_rfl) (by kernel_rfl) (by kernel_rfl) (fun _ _ _ h => h) rfl hHeld ?_)
  show wpAnyH _ _ _ _ _ _ _ { tmps := _, defers := _ } _
  try dsimp only
  try simp only [List.setIfInBounds_toArray]
  try simp only [List.set_cons_succ]
  try simp only [List.set_cons_zero]
  refine held_next 15 _ (by kernel_rfl) rfl rfl fun K hK => ?_
  go_simp
  refine (HKept.out _ hHeld).mono ?_
  rintro e wx ⟨rfl, rfl⟩
  show K _ _
  refine hK _ _ hHeld (fun hHeld => ?_)
  clear hK K
  show wpAnyH _ _ _ _ _ _ _ { tmps := _, defers := _ } _
  try dsimp only
  try simp only [List.setIfInBounds_toArray]
  try simp only [List.set_cons_succ]
  try simp only [List.set_cons_zero]
  first | (refine held_take 16 _ rfl (by kernel_rfl) (by kernel_rfl) (by kernel_rfl) (v := ?_) (fun _ _ _ h => h) ?_ rfl hHeld ?_; rotate_left; focus (intro w hS; skip; go_simp; try with_reducible rfl)) | (refine held_skip 16 _ rfl (by kernel_rfl) (by kernel_rfl) (by kernel_rfl) (fun _ _ _ h => h) rfl hHeld ?_)
  show wpAnyH _ _ _ _ _ _ _ { tmps := _, defers := _ } _
  try dsimp only
  try simp only [List.setIfInBounds_toArray]
  try simp only [List.set_cons_succ]
  try simp only [List.set_cons_zero]
  first | (refine held_take 17 _ rfl (by kernel_rfl) (by kernel_rfl) (by kernel_rfl) (v := ?_) (fun _ _ _ h => h) ?_ rfl hHeld ?_; rotate_left; focus (intro w hS; skip; go_simp; try with_reducible rfl)) | (refine held_skip 17 _ rfl (by kernel_rfl) (by kernel_rfl) (by kernel_rfl) (fun _ _ _ h => h) rfl hHeld ?_)
  show wpAnyH _ _ _ _ _ _ _ { tmps := _, defers := _ } _
  try dsimp only
  try simp only [List.setIfInBounds_toArray]
  try simp only [List.set_cons_succ]
  try simp only [List.set_cons_zero]
  first | (refine held_take 18 _ rfl (by kernel_rfl) (by kernel_rfl) (by kernel_rfl) (v := ?_) (fun _ _ _ h => h) ?_ rfl hHeld ?_; rotate_left; focus (intro w hS; skip; go_simp; try with_reducible rfl)) | (refine held_skip 18 _ rfl (by kernel_rfl) (by kernel_rfl) (by kernel_rfl) (fun _ _ _ h => h) rfl hHeld ?_)
  show wpAnyH _ _ _ _ _ _ _ { tmps := _, defers := _ } _
  try dsimp only
  try simp only [List.setIfInBounds_toArray]
  try simp only [List.set_cons_succ]
  try simp only [List.set_cons_zero]
  first | (refine held_take 19 _ rfl (by kernel_rfl) (by kernel_rfl) (by kernel_rfl) (v := ?_) (fun _ _ _ h => h) ?_ rfl hHeld ?_; rotate_left; focus (intro w hS; skip; go_simp; try with_reducible rfl)) | (refine held_skip 19 _ rfl (by kernel_rfl) (by kernel_rfl) (by kernel_rfl) (fun _ _ _ h => h) rfl hHeld ?_)
  show wpAnyH _ _ _ _ _ _ _ { tmps := _, defers := _ } _
  try dsimp only
  try simp only [List.setIfInBounds_toArray]
  try simp only [List.set_cons_succ]
  try simp only [List.set_cons_zero]
  first | (refine held_take 20 _ rfl (by kernel_rfl) (by kernel_rfl) (by kernel_rfl) (v := ?_) (fun _ _ _ h => h) ?_ rfl hHeld ?_; rotate_left; focus (intro w hS; skip; go_simp; try with_reducible rfl)) | (refine held_skip 20 _ rfl (by kernel_rfl) (by kernel_rfl) (by kernel_rfl) (fun _ _ _ h => h) rfl hHeld ?_)
  show wpAnyH _ _ _ _ _ _ _ { tmps := _, defers := _ } _
  try dsimp only
  try simp only [List.setIfInBounds_toArray]
  try simp only [List.set_cons_succ]
  try simp only [List.set_cons_zero]
  refine held_next 21 _ (by kernel_rfl) rfl rfl fun K hK => ?_
  go_simp
  refine (HKeptAll.out _ hHeld).mono ?_
  rintro e wx ⟨rfl, hbx⟩
  show K _ _
  refine hK _ _ (HSB.out _ _ hHeld hbx) (fun hHeld => ?_)
  clear hK K hbx
  show wpAnyH _ _ _ _ _ _ _ { tmps := _, defers := _ } _
  try dsimp only
  try simp only [List.setIfInBounds_toArray]
  try simp only [List.set_cons_succ]
  try simp only [List.set_cons_zero]
  first | (refine held_take 22 _ rfl (by kernel_rfl) (by kernel_rfl) (by kernel_rfl) (v := ?_) (fun _ _ _ h => h) ?_ rfl hHeld ?_; rotate_left; focus (intro w hS; skip; go_simp; try with_reducible rfl)) | (refine held_skip 22 _ rfl (by kernel_rfl) (by kernel_rfl) (by kernel_rfl) (fun _ _ _ h => h) rfl hHeld ?_)
  show wpAnyH _ _ _ _ _ _ _ { tmps := _, defers := _ } _
  try dsimp only
  try simp only [List.setIfInBounds_toArray]
  try simp only [List.set_cons_succ]
  try simp only [List.set_cons_zero]
  first | (refine held_take 23 _ rfl (by kernel_rfl) (by kernel_rfl) (by kernel_rfl) (v := ?_) (fun _ _ _ h => h) ?_ rfl hHeld ?_; rotate_left; focus (intro w hS; skip; go_simp; try with_reducible rfl)) | (refine held_skip 23 _ rfl (by kernel_rfl) (by kernel_rfl) (by kernel_rfl) (fun _ _ _ h => h) rfl hHeld ?_)
  show wpAnyH _ _ _ _ _ _ _ { tmps := _, defers := _ } _
  try dsimp only
  try simp only [List.setIfInBounds_toArray]
  try simp only [List.set_cons_succ]
  try simp only [List.set_cons_zero]
  first | (refine held_take 24 _ rfl (by kernel_rfl) (by kernel_rfl) (by kernel_rfl) (v := ?_) (fun _ _ _ h => h) ?_ rfl hHeld ?_; rotate_left; focus (intro w hS; skip; go_simp; try with_reducible rfl)) | (refine held_skip 24 _ rfl (by kernel_rfl) (by kernel_rfl) (by kernel_rfl) (fun _ _ _ h => h) rfl hHeld ?_)
  show wpAnyH _ _ _ _ _ _ _ { tmps := _, defers := _ } _
  try dsimp only
  try simp only [List.setIfInBounds_toArray]
  try simp only [List.set_cons_succ]
  try simp only [List.set_cons_zero]
  first | (refine held_take 25 _ rfl (by kernel_rfl) (by kernel_rfl) (by kernel_rfl) (v := ?_) (fun _ _ _ h => h) ?_ rfl hHeld ?_; rotate_left; focus (intro w hS; skip; go_simp; try with_reducible rfl)) | (refine held_skip 25 _ rfl (by kernel_rfl) (by kernel_rfl) (by kernel_rfl) (fun _ _ _ h => h) rfl hHeld ?_)
  show wpAnyH _ _ _ _ _ _ _ { tmps := _, defers := _ } _
  try dsimp only
  try simp only [List.setIfInBounds_toArray]
  try simp only [List.set_cons_succ]
  try simp only [List.set_cons_zero]
  first | (refine held_take 26 _ rfl (by kernel_rfl) (by kernel_rfl) (by kernel_rfl) (v := ?_) (fun _ _ _ h => h) ?_ rfl hHeld ?_; rotate_left; focus (intro w hS; skip; go_simp; try with_reducible rfl)) | (refine held_skip 26 _ rfl (by kernel_rfl) (by kernel_rfl) (by kernel_rfl) (fun _ _ _ h => h) rfl hHeld ?_)
  show wpAnyH _ _ _ _ _ _ _ { tmps := _, defers := _ } _
  try dsimp only
  try simp only [List.setIfInBounds_toArray]
  try simp only [List.set_cons_succ]
  try simp only [List.set_cons_zero]
  refine held_next 27 _ (by kernel_rfl) rfl rfl fun K hK => ?_
  go_simp
  refine (HStays.out _ hHeld).mono ?_
  rintro e wx ⟨rfl, hbx⟩
  show K _ _
  refine hK _ _ (HSB.out _ _ hHeld hbx) (fun hHeld => ?_)
  clear hK K hbx
  show wpAnyH _ _ _ _ _ _ _ { tmps := _, defers := _ } _
  try dsimp only
  try simp only [List.setIfInBounds_toArray]
  try simp only [List.set_cons_succ]
  try simp only [List.set_cons_zero]
  first | (refine held_take 28 _ rfl (by kernel_rfl) (by kernel_rfl) (by kernel_rfl) (v := ?_) (fun _ _ _ h => h) ?_ rfl hHeld ?_; rotate_left; focus (intro w hS; skip; go_simp; try with_reducible rfl)) | (refine held_skip 28 _ rfl (by kernel_rfl) (by kernel_rfl) (by kernel_rfl) (fun _ _ _ h => h) rfl hHeld ?_)
  show wpAnyH _ _ _ _ _ _ _ { tmps := _, defers := _ } _
  try dsimp only
  try simp only [List.setIfInBounds_toArray]
  try simp only [List.set_cons_succ]
  try simp only [List.set_cons_zero]
  first | (refine held_take 29 _ rfl (by kernel_rfl) (by kernel_rfl) (by kernel_rfl) (v := ?_) (fun _ _ _ h => h) ?_ rfl hHeld ?_; rotate_left; focus (intro w hS; skip; go_simp; try with_reducible rfl)) | (refine held_skip 29 _ rfl (by kernel_rfl) (by kernel_rfl) (by kernel_rfl) (fun _ _ _ h => h) rfl hHeld ?_)
  show wpAnyH _ _ _ _ _ _ _ { tmps := _, defers := _ } _
  try dsimp only
  try simp only [List.setIfInBounds_toArray]
  try simp only [List.set_cons_succ]
  try simp only [List.set_cons_zero]
  refine wpAnyH_done (by kernel_rfl) ?_ _
  have HX : Hid (∃ i : Nat, Value.int .i64 0 = .int .i64 (i : Int) ∧ i ≤ N ∧ Hid (SS wx)) := Lib.hid ⟨0, rfl, Nat.zero_le _, Lib.hid hHeld⟩
  clear hHeld
  go_wp2_with fail
  go_loopw [57] (fun v wr => ∃ i : Nat, v = .int .i64 (i : Int) ∧ i ≤ N ∧ Hid (SS wr)) (fun v _ => N - (RowKit.intOf v).toNat)
  case atStart => exact HX.out
  case round =>
    clear HX
    obtain ⟨i, rfl, hi, hss⟩ := hrel
    by_cases hlt : i < N
    · have hwr := HSW.out _ hss.out
      obtain ⟨pb, off, hp, hpb, hcs⟩ := HP.out.1 (by omega)
      subst hp
      have c1 := (hwr.cell (p := ⟨pb, off + i, none⟩) hpb).trans (hcs i hlt)
      obtain ⟨hby, hlc, hlm⟩ := HP.out.2 i hlt
      have HLx := Lib.hid (lent_any (P i) (C i) (L i) wr (HNil.out i hlt) ((hby.keep hwr).at hwr.size hwr.size) hlm)
      have HBy := Lib.hid hby
      have HLm := Lib.hid hlm
      have HNi := Lib.hid (HNil.out i hlt)
      have HLi : Hid ((L i).length ≤ 1048576) := Lib.hid (by have := cat_one_of L hlt; have := HZ.out; omega)
      obtain ⟨E, hE⟩ : ∃ E, hmacL l (L i) = E := ⟨_, rfl⟩
      have HE := Lib.hid hE
      have HEl : Hid (E.length = 32) := Lib.hid (by rw [← hE]; exact sumI_length _ _ _)
      obtain ⟨m, hmm⟩ : ∃ n, (L i).length = n := ⟨_, rfl⟩
      have HMM := Lib.hid hmm
      rw [hmm] at c1 HLx
      have hd : decide ((i : Int) < (N : Int)) = true := decide_eq_true (by omega)
      have hti : (i : Int) < (N : Int) := by omega
      have hi63 : (i : Int) ≤ 2000000 := by have := HN.out; omega
      obtain ⟨Pi, hPi⟩ : ∃ x, P i = x := ⟨_, rfl⟩
      obtain ⟨Ci, hCi⟩ : ∃ x, C i = x := ⟨_, rfl⟩
      rw [hPi, hCi] at c1 HLx HNi
      rw [hPi] at HBy
      clear hcs hby hlc hlm hpb hmm hPi hCi hE hwr
      go_wp2_with fail
      refine HLx.out.mono ?_
      rintro e w6 ⟨gx, kx, rfl, -, hlx, hb6⟩
      have HLx6 := Lib.hid hlx
      have HSS6 : Hid (SS w6) := Lib.hid (HSB.out _ _ hss.out hb6)
      have hgw6 := HSW.out _ HSS6.out
      have hl6 := HLk5.out.below (HSb.out _ HSS6.out)
      have hEx := extract_any (some ⟨gk, 0, none⟩) ck l (some ⟨gx, 0, none⟩) kx (L i) w6 (HT.out.below hgw6) hl6.bytes (by have := hl6.fit; omega) HM.out hlx.bytes (by have := hlx.fit; omega) HLm.out
      rw [HE.out, HNN.out, HMM.out] at hEx
      unfold dig at hEx
      have HEx := Lib.hid hEx
      clear hlx hb6 hgw6 hl6 hEx c1
      go_wp2_with fail
      refine HEx.out.mono ?_
      rintro e w7 ⟨rfl, hb7⟩
      have HSS7 : Hid (SS w7) := Lib.hid (HSB.out _ _ HSS6.out hb7)
      have hgw7 := HSW.out _ HSS7.out
      have HLx7 : Hid (Lent w7 gx kx (L i)) := Lib.hid (HLx6.out.below hb7)
      have hR := ref7Sum_any a c l Pi Ci (L i) w7 ((HB.out.keep hgw7).at hgw7.size hgw7.size) HM.out HNi.out ((HBy.out.keep hgw7).at hgw7.size hgw7.size) (by have := HLi.out; omega)
      rw [HE.out, HNN.out, HMM.out] at hR
      unfold dig at hR
      have HR := Lib.hid hR
      clear hb7 hgw7 hR
      go_wp2_with fail
      refine HR.out.mono ?_
      rintro e w8 ⟨rfl, hb8⟩
      have HSS8 : Hid (SS w8) := Lib.hid (HSB.out _ _ HSS7.out hb8)
      have hgw8 := HSW.out _ HSS8.out
      have hK := kept_any gx kx Pi Ci (L i) w8 (fun e => (HNi.out e).1) ((HBy.out.keep hgw8).at hgw8.size hgw8.size) HLm.out (HLx7.out.below hb8)
      rw [HMM.out] at hK
      have HK := Lib.hid hK
      have heq := HSame.out E w8 HEl.out
      obtain ⟨X, hX⟩ : ∃ X, (Go.Lib.byteCells E).toArray = X := ⟨_, rfl⟩
      rw [hX] at heq ⊢
      clear hb8 hgw8 hK hX
      go_wp2_with fail
      refine HK.out.mono ?_
      rintro e w9 ⟨rfl, rfl⟩
      clear heq
      go_wp2_with fail
      go_roundw
      case rel => exact ⟨i + 1, by go_num, hlt, HSS8⟩
      case measure => simp [RowKit.intOf]; omega
    · obtain rfl : N = i := by omega
      have hd : decide ((N : Int) < (N : Int)) = false := decide_eq_false (by omega)
      have HK := Lib.hid (HKept.out _ hss.out)
      have HWk := Lib.hid (wakes7_any wr (HT.out.below (HSW.out _ hss.out)))
      have HGf := Lib.hid (HSW.out _ hss.out)
      clear hlt hi
      go_wp2_with fail
      refine HK.out.mono ?_
      rintro e w9 ⟨rfl, rfl⟩
      go_wp2_with fail
      refine HWk.out.mono ?_
      rintro e wa ⟨rfl, hba⟩
      have HGa := Lib.hid (HGf.out.trans (hba.mono HGf.out.size))
      clear hba
      go_wp2_with fail
      go_ret
      exact ⟨rfl, HGa.out⟩
end Go.Proofs.YtjjahcidncnogaaDoor
