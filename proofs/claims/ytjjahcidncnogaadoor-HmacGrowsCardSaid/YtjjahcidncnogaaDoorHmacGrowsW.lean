/- HmacGrows, walked. -/
import Derived.Test.YtjjahcidncnogaaDoorExpand
import Derived.Test.YtjjahcidncnogaaDoorMacWake7
import Derived.Test.YtjjahcidncnogaaDoorSliceM
namespace Go.Proofs.YtjjahcidncnogaaDoor
open Go.ChangeShapes Go.WideShapes Go.ChangeAt Go.RowKit Go.Lib

/-- b[i:j:j]. -/
theorem slice_midm (a : Option Addr) (n cap i j : Nat) (hij : i < j) (hj : j ≤ n) (hc : n ≤ cap) :
    ∃ q, (∀ w, (Instr.sliceAt 28 (.slice a n cap) (some (.int .i64 (i : Int))) (some (.int .i64 (j : Int))) (some (.int .i64 (j : Int)))).run Tryd.prog w = .ok (.slice q (j - i) (j - i)) w) ∧
      ∀ (l : List UInt8) (w : World) (b K : Nat), l.length = n → Bytes b K a l w → Bytes b K q ((l.drop i).take (j - i)) w := by
  refine ⟨if j = i then a else a.map (·.add (i * 1)), fun w => ?_, fun l w b K hl hB hne => ?_⟩
  · rw [run_sliceAt_slice w 28 _ _ _ _ sliceElem, run_slice_lhm w 28 a n cap sliceElem .i64 .i64 .i64 (i : Int) (j : Int) (j : Int) (by omega) (by omega) (by omega) (by omega), sliceSize]
    simp only [Result.andThen, sliced, Int.toNat_natCast]
  · obtain ⟨pb, off, rfl, h1, h2, h3⟩ := hB (by intro e; rw [e] at hl; simp at hl; omega)
    refine ⟨pb, off + i, ?_, h1, h2, fun k hk2 => ?_⟩
    · rw [if_neg (by omega)]
      simp [Addr.add]
    · rw [List.length_take, List.length_drop] at hk2
      have h := h3 (i + k) (by omega)
      rw [← Nat.add_assoc] at h
      rw [h]
      congr 2
      rw [List.getElem_take, List.getElem_drop]
/-- a[:k] of a row of the call's own. -/
theorem cut_own {w : World} {B n k : Nat} {q : Option Addr} {c : Nat} {xs : List Value} (h : w.ownsRow B 5 1 (.slice q n c) n xs) (hk : k ≤ n) : ∀ u, (Instr.sliceAt 28 (.slice q n c) none (some (.int .i64 (k : Int))) none).run Tryd.prog u = .ok (.slice q k c) u := fun u => by
  rcases h.2 with ⟨hv, h0⟩ | ⟨g, cap, cur, hv, _, _, hnc, _⟩
  · simp only [Value.slice.injEq] at hv
    obtain ⟨rfl, rfl, rfl⟩ := hv
    obtain rfl : k = 0 := by omega
    exact slice_none0 u
  · simp only [Value.slice.injEq] at hv
    obtain ⟨rfl, -, rfl⟩ := hv
    rcases Nat.eq_zero_or_pos c with h1 | h1
    · obtain rfl : k = 0 := by omega
      obtain rfl : n = 0 := by omega
      subst h1
      rw [run_sliceAt_slice u 28 _ _ _ _ sliceElem, run_slice_h u 28 (some ⟨g, 0, none⟩) 0 0 sliceElem .i64 ((0 : Nat) : Int) (by omega) (by omega), sliceSize]
      simp [Result.andThen, sliced]
    · exact slice_cut g n c k (by omega) h1 u
theorem owns_cap7 {w : World} {B n c : Nat} {q : Option Addr} {xs : List Value} (h : w.ownsRow B 5 1 (.slice q n c) n xs) : n ≤ c ∧ (q = none → n = 0 ∧ c = 0) := by
  rcases h.2 with ⟨hv, h0⟩ | ⟨g, cap, cur, hv, _, _, hnc, _⟩
  · simp only [Value.slice.injEq] at hv
    obtain ⟨rfl, rfl, rfl⟩ := hv
    exact ⟨Nat.le_refl _, fun _ => ⟨rfl, rfl⟩⟩
  · simp only [Value.slice.injEq] at hv
    obtain ⟨rfl, -, rfl⟩ := hv
    exact ⟨hnc, fun e => by cases e⟩
def mostN (x : Int) : Nat := (min (max x 0) 8160).toNat
theorem mostN_le (x : Int) : mostN x ≤ 8160 := by unfold mostN; omega
theorem mostN_val (x : Int) : min (max x 0) 8160 = (mostN x : Int) := by unfold mostN; omega
set_option maxHeartbeats 1000000 in
theorem most_any (x : Int) (w : World) : Calls Tryd.prog 56 #[.int .i64 x] w fun e w' => e = .returned (.int .i64 (mostN x : Int)) ∧ w' = w := by
  have h := mostN_val x
  go_enter Tryd.func56, Tryd.ntmps56
  go_wp2_with fail
  go_ret
  exact ⟨by rw [← h]; rfl, rfl⟩
/-- The pieces of an expanded key lie in it. -/
theorem exp_piece (key info : List UInt8) (n j : Nat) (h : 32 * (j + 1) ≤ n) : ((expL key info n).drop (32 * j)).take 32 = lastL key info (j + 1) := by
  have h1 := outL_more key info (j + 1) ((n + 31) / 32 - (j + 1))
  rw [show j + 1 + ((n + 31) / 32 - (j + 1)) = (n + 31) / 32 by omega] at h1
  have h2 : (expL key info n).take (32 * (j + 1)) = outL key info (j + 1) := by
    unfold expL
    rw [List.take_take, Nat.min_eq_left h, h1]
  have h3 : ((expL key info n).drop (32 * j)).take 32 = ((expL key info n).take (32 * (j + 1))).drop (32 * j) := by
    rw [List.drop_take]
    congr 1
    omega
  rw [h3, h2, outL, List.drop_append_of_le_length (by rw [outL_length]; exact Nat.le_refl _), List.drop_of_length_le (by rw [outL_length]; exact Nat.le_refl _), List.nil_append]
theorem exp_common (key info : List UInt8) (n m k : Nat) (hn : k ≤ n) (hm : k ≤ m) : (expL key info n).take k = (expL key info m).take k := by
  have key2 : ∀ n m, k ≤ n → k ≤ m → n ≤ m → (expL key info n).take k = (expL key info m).take k := by
    intro n m hn hm hnm
    unfold expL
    rw [List.take_take, List.take_take, Nat.min_eq_left hn, Nat.min_eq_left hm]
    have h1 := outL_more key info ((n + 31) / 32) ((m + 31) / 32 - (n + 31) / 32)
    rw [show (n + 31) / 32 + ((m + 31) / 32 - (n + 31) / 32) = (m + 31) / 32 by omega] at h1
    rw [← h1, List.take_take, Nat.min_eq_left (by omega)]
  rcases Nat.le_total n m with h | h
  · exact key2 n m hn hm h
  · exact (key2 m n hm hn h).symm

set_option maxRecDepth 100000 in
set_option maxHeartbeats 16000000 in
theorem hmacGrows_walk (a : Option Addr) (c : Nat) (l : List UInt8) (a2 : Option Addr) (c2 : Nat) (l2 : List UInt8) (x y : Int) (W : World) (hT : Tab W) (hB : Bytes W.heap.size W.heap.size a l W) (hc : l.length ≤ c) (hm : l.length ≤ 140737488351232)
    (hB2 : Bytes W.heap.size W.heap.size a2 l2 W) (hc2 : l2.length ≤ c2) (hm2 : l2.length ≤ 140737488351232) :
    Calls Tryd.prog 11 #[.agg #[.slice a l.length c, .slice a2 l2.length c2, .int .i64 x, .int .i64 y]] W fun e w' => e = .returned (.bool true) ∧ Below W.heap.size W w' := by
  have HT := Lib.hid hT
  have HB := Lib.hid hB
  have HC := Lib.hid hc
  have HM := Lib.hid hm
  have HB2 := Lib.hid hB2
  have HC2 := Lib.hid hc2
  have HM2 := Lib.hid hm2
  have HMx := Lib.hid (fun u => most_any x u)
  have HMy := Lib.hid (fun u => most_any y u)
  obtain ⟨N1, hN1⟩ : ∃ n, mostN x = n := ⟨_, rfl⟩
  obtain ⟨N2, hN2⟩ : ∃ n, mostN y = n := ⟨_, rfl⟩
  have hN1l := mostN_le x
  have hN2l := mostN_le y
  rw [hN1] at HMx hN1l
  rw [hN2] at HMy hN2l
  have HN1 := Lib.hid hN1l
  have HN2 := Lib.hid hN2l
  have HEx := Lib.hid (fun u (hu : Below W.heap.size W u) N (hN : N ≤ 8160) => expand_any a c l a2 c2 l2 N hN u (hT.below hu) ((hB.keep hu).at hu.size hu.size) hc hm ((hB2.keep hu).at hu.size hu.size) hc2 hm2)
  obtain ⟨n, hnn⟩ : ∃ n, l.length = n := ⟨_, rfl⟩
  obtain ⟨n2, hnn2⟩ : ∃ n, l2.length = n := ⟨_, rfl⟩
  have HNN := Lib.hid hnn
  have HNN2 := Lib.hid hnn2
  rw [hnn, hnn2] at HEx ⊢
  obtain ⟨v1, hv1⟩ : ∃ v, v = W.alloc (.cells #[.slice a n c, .slice a2 n2 c2, .int .i64 x, .int .i64 y] 100) := ⟨_, rfl⟩
  have HV1 := Lib.hid hv1.symm
  have HG1 : Hid (Below W.heap.size W v1) := Lib.hid (by rw [hv1]; exact (Below.refl _ W).alloc (Nat.le_refl _) _)
  have HA1 : Hid (v1.heap[W.heap.size]? = some (.cells #[.slice a n c, .slice a2 n2 c2, .int .i64 x, .int .i64 y] 100 (0, 0))) := Lib.hid (by rw [hv1]; exact heap_last _ _)
  have HZ1 : Hid (W.heap.size < v1.heap.size) := Lib.hid (Array.getElem?_eq_some_iff.1 HA1.out).1
  -- what holds from here on
  obtain ⟨SS, hSS⟩ : ∃ SS : World → Prop, SS = fun u => Below v1.heap.size v1 u := ⟨_, rfl⟩
  have HS0 : Hid (∀ u, Below v1.heap.size v1 u → SS u) := Lib.hid (by rw [hSS]; exact fun u h => h)
  have HSb : Hid (∀ u, SS u → Below v1.heap.size v1 u) := Lib.hid (by rw [hSS]; exact fun u h => h)
  have HSB : Hid (∀ u u', SS u → Below u.heap.size u u' → SS u') := Lib.hid (by rw [hSS]; exact fun u u' h hb => h.trans (hb.mono h.size))
  have HSW : Hid (∀ u, SS u → Below W.heap.size W u) := Lib.hid (fun u h => HG1.out.trans ((HSb.out u h).mono HG1.out.size))
  have HF : Hid (∀ u i v, SS u → (#[.slice a n c, .slice a2 n2 c2, .int .i64 x, .int .i64 y] : Array Value)[i]? = some v → u.cell? ⟨W.heap.size, i, none⟩ = some v) := Lib.hid (fun u i v h hi => by
    rw [cell_of_heap (((HSb.out u h).block _ HZ1.out).trans HA1.out)]; exact hi)
  have HF0 : Hid (∀ u, SS u → u.cell? ⟨W.heap.size, 0, none⟩ = some (.slice a n c)) := Lib.hid (fun u h => HF.out u 0 _ h rfl)
  have HF1 : Hid (∀ u, SS u → u.cell? ⟨W.heap.size, 1, none⟩ = some (.slice a2 n2 c2)) := Lib.hid (fun u h => HF.out u 1 _ h rfl)
  clear hT hB hc hm hB2 hc2 hm2 hN1 hN2 hnn hnn2 hv1 hSS hN1l hN2l
  go_enter Tryd.func11, Tryd.ntmps11
  go_wp2_with fail
  refine code_at HV1.out ?_
  refine wp_region_held_drew (S := SS) (by kernel_rfl) (HS0.out _ (below_drawn 1 (Below.refl _ _))) (fun hHeld => ?_)
  first | (refine held_take 0 _ rfl (by kernel_rfl) (by kernel_rfl) (by kernel_rfl) (v := ?_) (fun _ _ _ h => h) ?_ rfl hHeld ?_; rotate_left; focus (intro w hS; skip; go_simp; try with_reducible rfl)) | (refine held_skip 0 _ rfl (by kernel_rfl) (by kernel_rfl) (by kernel_rfl) (fun _ _ _ h => h) rfl hHeld ?_)
  show wpAnyH _ _ _ _ _ _ _ { tmps := _, defers := _ } _
  try unfold Act.put
  try dsimp only
  try simp only [List.setIfInBounds_toArray]
  try simp only [List.set_cons_succ]
  try simp only [List.set_cons_zero]
  first | (refine held_take 1 _ rfl (by kernel_rfl) (by kernel_rfl) (by kernel_rfl) (v := ?_) (fun _ _ _ h => h) ?_ rfl hHeld ?_; rotate_left; focus (intro w hS; have h := HF0.out w hS; go_simp; try with_reducible rfl)) | (refine held_skip 1 _ rfl (by kernel_rfl) (by kernel_rfl) (by kernel_rfl) (fun _ _ _ h => h) rfl hHeld ?_)
  show wpAnyH _ _ _ _ _ _ _ { tmps := _, defers := _ } _
  try unfold Act.put
  try dsimp only
  try simp only [List.setIfInBounds_toArray]
  try simp only [List.set_cons_succ]
  try simp only [List.set_cons_zero]
  first | (refine held_take 2 _ rfl (by kernel_rfl) (by kernel_rfl) (by kernel_rfl) (v := ?_) (fun _ _ _ h => h) ?_ rfl hHeld ?_; rotate_left; focus (intro w hS; skip; go_simp; try with_reducible rfl)) | (refine held_skip 2 _ rfl (by kernel_rfl) (by kernel_rfl) (by kernel_rfl) (fun _ _ _ h => h) rfl hHeld ?_)
  show wpAnyH _ _ _ _ _ _ _ { tmps := _, defers := _ } _
  try unfold Act.put
  try dsimp only
  try simp only [List.setIfInBounds_toArray]
  try simp only [List.set_cons_succ]
  try simp only [List.set_cons_zero]
  first | (refine held_take 3 _ rfl (by kernel_rfl) (by kernel_rfl) (by kernel_rfl) (v := ?_) (fun _ _ _ h => h) ?_ rfl hHeld ?_; rotate_left; focus (intro w hS; have h := HF1.out w hS; go_simp; try with_reducible rfl)) | (refine held_skip 3 _ rfl (by kernel_rfl) (by kernel_rfl) (by kernel_rfl) (fun _ _ _ h => h) rfl hHeld ?_)
  show wpAnyH _ _ _ _ _ _ _ { tmps := _, defers := _ } _
  try unfold Act.put
  try dsimp only
  try simp only [List.setIfInBounds_toArray]
  try simp only [List.set_cons_succ]
  try simp only [List.set_cons_zero]
  first | (refine held_take 4 _ rfl (by kernel_rfl) (by kernel_rfl) (by kernel_rfl) (v := ?_) (fun _ _ _ h => h) ?_ rfl hHeld ?_; rotate_left; focus (intro w hS; skip; go_simp; try with_reducible rfl)) | (refine held_skip 4 _ rfl (by kernel_rfl) (by kernel_rfl) (by kernel_rfl) (fun _ _ _ h => h) rfl hHeld ?_)
  show wpAnyH _ _ _ _ _ _ _ { tmps := _, defers := _ } _
  try unfold Act.put
  try dsimp only
  try simp only [List.setIfInBounds_toArray]
  try simp only [List.set_cons_succ]
  try simp only [List.set_cons_zero]
  first | (refine held_take 5 _ rfl (by kernel_rfl) (by kernel_rfl) (by kernel_rfl) (v := ?_) (fun _ _ _ h => h) ?_ rfl hHeld ?_; rotate_left; focus (intro w hS; skip; go_simp; try with_reducible rfl)) | (refine held_skip 5 _ rfl (by kernel_rfl) (by kernel_rfl) (by kernel_rfl) (fun _ _ _ h => h) rfl hHeld ?_)
  show wpAnyH _ _ _ _ _ _ _ { tmps := _, defers := _ } _
  try unfold Act.put
  try dsimp only
  try simp only [List.setIfInBounds_toArray]
  try simp only [List.set_cons_succ]
  try simp only [List.set_cons_zero]
  refine wpAnyH_done (by kernel_rfl) ?_ _
  have f2 := HF.out _ 2 _ hHeld rfl
  have HH := Lib.hid hHeld
  clear hHeld
  go_wp2_with fail
  refine (HMx.out _).mono ?_
  rintro e wx ⟨rfl, rfl⟩
  clear f2
  go_wp2_with fail
  refine (HEx.out _ (HSW.out _ HH.out) N1 HN1.out).mono ?_
  rintro e w2 ⟨q1, k1, rfl, ho1, hb2⟩
  have HH2 : Hid (SS w2) := Lib.hid (HSB.out _ _ HH.out hb2)
  have HO1 := Lib.hid ho1
  have f3 := HF.out _ 3 _ HH2.out rfl
  clear ho1 hb2
  go_wp2_with fail
  refine (HMy.out _).mono ?_
  rintro e wx ⟨rfl, rfl⟩
  clear f3
  go_wp2_with fail
  refine (HEx.out _ (HSW.out _ HH2.out) N2 HN2.out).mono ?_
  rintro e w3 ⟨q2, k2, rfl, ho2, hb3⟩
  have HH3 : Hid (SS w3) := Lib.hid (HSB.out _ _ HH2.out hb3)
  have HO2 := Lib.hid ho2
  have HO13 := Lib.hid (owns_keeps HO1.out (fun j _ hj => hb3.block j hj))
  have f2 := HF.out _ 2 _ HH3.out rfl
  have f3 := HF.out _ 3 _ HH3.out rfl
  have hxx : ((N1 : Int) == (N1 : Int)) = true := by simp
  clear ho2 hb3
  go_wp2_with fail
  refine (HMx.out _).mono ?_
  rintro e wx ⟨rfl, rfl⟩
  go_wp2_with fail
  refine (HMy.out _).mono ?_
  rintro e wx ⟨rfl, rfl⟩
  clear f2 f3
  obtain ⟨K, hK⟩ : ∃ K, min N1 N2 = K := ⟨_, rfl⟩
  have hmin : min (N1 : Int) (N2 : Int) = (K : Int) := by omega
  have hK1 : K ≤ N1 := by omega
  have hK2 : K ≤ N2 := by omega
  have HK1 := Lib.hid hK1
  have HK2 := Lib.hid hK2
  clear hK
  go_wp2_with fail
  clear hmin
  have HcutA := Lib.hid (cut_own HO13.out hK1)
  have HcutB := Lib.hid (cut_own HO2.out hK2)
  obtain ⟨S3, hS3⟩ : ∃ SS : World → Prop, SS = fun u => Below wx.heap.size wx u := ⟨_, rfl⟩
  have HS30 : Hid (∀ u, Below wx.heap.size wx u → S3 u) := Lib.hid (by rw [hS3]; exact fun u h => h)
  have HS3b : Hid (∀ u, S3 u → Below wx.heap.size wx u) := Lib.hid (by rw [hS3]; exact fun u h => h)
  have HS3S : Hid (∀ u, S3 u → SS u) := Lib.hid (fun u h => HSB.out _ _ HH3.out (HS3b.out u h))
  have HO1u : Hid (∀ u, S3 u → u.ownsRow _ 5 1 (.slice q1 N1 k1) N1 (Go.Lib.byteCells (expL l l2 N1))) := Lib.hid (fun u h => owns_keeps HO13.out (fun j _ hj => (HS3b.out u h).block j hj))
  have hcomm := exp_common l l2 N1 N2 K hK1 hK2
  have HTA : Hid (∀ u, S3 u → (convert 28 9 (.slice q1 K k1)).run Tryd.prog u = .ok (.string ⟨((expL l l2 N1).take K).toArray⟩) u) := Lib.hid (fun u h => by
    have hs := owns_short (HO1u.out u h) HK1.out (fun e => ⟨by have := (owns_cap7 HO13.out).2 e; have := HK1.out; omega, ((owns_cap7 HO13.out).2 e).2⟩) (expL_length _ _ _)
    obtain ⟨q9, c9, he, hnl, hb9⟩ := owns_bytes hs (by rw [List.length_take, expL_length]; have := HK1.out; omega)
    simp only [Value.slice.injEq, true_and] at he
    obtain ⟨rfl, rfl⟩ := he
    have h2 := bytes_text k1 hb9 hnl
    rwa [List.length_take, expL_length, Nat.min_eq_left HK1.out] at h2)
  have HTB : Hid (∀ u, S3 u → (convert 28 9 (.slice q2 K k2)).run Tryd.prog u = .ok (.string ⟨((expL l l2 N1).take K).toArray⟩) u) := Lib.hid (fun u h => by
    have hs := owns_short (owns_keeps HO2.out (fun j _ hj => (HS3b.out u h).block j hj)) HK2.out (fun e => ⟨by have := (owns_cap7 HO2.out).2 e; have := HK2.out; omega, ((owns_cap7 HO2.out).2 e).2⟩) (expL_length _ _ _)
    obtain ⟨q9, c9, he, hnl, hb9⟩ := owns_bytes hs (by rw [List.length_take, expL_length]; have := HK2.out; omega)
    simp only [Value.slice.injEq, true_and] at he
    obtain ⟨rfl, rfl⟩ := he
    have h2 := bytes_text k2 hb9 hnl
    rwa [List.length_take, expL_length, Nat.min_eq_left HK2.out, ← hcomm] at h2)
  obtain ⟨st, hst⟩ : ∃ s : ByteArray, (⟨((expL l l2 N1).take K).toArray⟩ : ByteArray) = s := ⟨_, rfl⟩
  rw [hst] at HTA HTB
  have hcap1 : (K : Int) ≤ (k1 : Int) := by have := (owns_cap7 HO13.out).1; omega
  have hcap2 : (K : Int) ≤ (k2 : Int) := by have := (owns_cap7 HO2.out).1; omega
  clear hS3 hcomm hst hK1 hK2
  refine wp_region_held_drew (S := S3) (by kernel_rfl) (HS30.out _ (below_drawn 1 (Below.refl _ _))) (fun hHeld => ?_)
  first | (refine held_take 0 _ rfl (by kernel_rfl) (by kernel_rfl) (by kernel_rfl) (v := ?_) (fun _ _ _ h => h) ?_ rfl hHeld ?_; rotate_left; focus (intro w hS; skip; go_simp; try with_reducible rfl)) | (refine held_skip 0 _ rfl (by kernel_rfl) (by kernel_rfl) (by kernel_rfl) (fun _ _ _ h => h) rfl hHeld ?_)
  show wpAnyH _ _ _ _ _ _ _ { tmps := _, defers := _ } _
  try unfold Act.put
  try dsimp only
  try simp only [List.setIfInBounds_toArray]
  try simp only [List.set_cons_succ]
  try simp only [List.set_cons_zero]
  first | (refine held_take 1 _ rfl (by kernel_rfl) (by kernel_rfl) (by kernel_rfl) (v := ?_) (fun _ _ _ h => h) ?_ rfl hHeld ?_; rotate_left; focus (intro w hS; skip; go_simp; try with_reducible rfl)) | (refine held_skip 1 _ rfl (by kernel_rfl) (by kernel_rfl) (by kernel_rfl) (fun _ _ _ h => h) rfl hHeld ?_)
  show wpAnyH _ _ _ _ _ _ _ { tmps := _, defers := _ } _
  try unfold Act.put
  try dsimp only
  try simp only [List.setIfInBounds_toArray]
  try simp only [List.set_cons_succ]
  try simp only [List.set_cons_zero]
  first | (refine held_take 2 _ rfl (by kernel_rfl) (by kernel_rfl) (by kernel_rfl) (v := ?_) (fun _ _ _ h => h) ?_ rfl hHeld ?_; rotate_left; focus (intro w hS; have h := HcutA.out w; go_simp; try with_reducible rfl)) | (refine held_skip 2 _ rfl (by kernel_rfl) (by kernel_rfl) (by kernel_rfl) (fun _ _ _ h => h) rfl hHeld ?_)
  show wpAnyH _ _ _ _ _ _ _ { tmps := _, defers := _ } _
  try unfold Act.put
  try dsimp only
  try simp only [List.setIfInBounds_toArray]
  try simp only [List.set_cons_succ]
  try simp only [List.set_cons_zero]
  first | (refine held_take 3 _ rfl (by kernel_rfl) (by kernel_rfl) (by kernel_rfl) (v := ?_) (fun _ _ _ h => h) ?_ rfl hHeld ?_; rotate_left; focus (intro w hS; have h := HTA.out w hS; go_simp; try with_reducible rfl)) | (refine held_skip 3 _ rfl (by kernel_rfl) (by kernel_rfl) (by kernel_rfl) (fun _ _ _ h => h) rfl hHeld ?_)
  show wpAnyH _ _ _ _ _ _ _ { tmps := _, defers := _ } _
  try unfold Act.put
  try dsimp only
  try simp only [List.setIfInBounds_toArray]
  try simp only [List.set_cons_succ]
  try simp only [List.set_cons_zero]
  first | (refine held_take 4 _ rfl (by kernel_rfl) (by kernel_rfl) (by kernel_rfl) (v := ?_) (fun _ _ _ h => h) ?_ rfl hHeld ?_; rotate_left; focus (intro w hS; skip; go_simp; try with_reducible rfl)) | (refine held_skip 4 _ rfl (by kernel_rfl) (by kernel_rfl) (by kernel_rfl) (fun _ _ _ h => h) rfl hHeld ?_)
  show wpAnyH _ _ _ _ _ _ _ { tmps := _, defers := _ } _
  try unfold Act.put
  try dsimp only
  try simp only [List.setIfInBounds_toArray]
  try simp only [List.set_cons_succ]
  try simp only [List.set_cons_zero]
  first | (refine held_take 5 _ rfl (by kernel_rfl) (by kernel_rfl) (by kernel_rfl) (v := ?_) (fun _ _ _ h => h) ?_ rfl hHeld ?_; rotate_left; focus (intro w hS; skip; go_simp; try with_reducible rfl)) | (refine held_skip 5 _ rfl (by kernel_rfl) (by kernel_rfl) (by kernel_rfl) (fun _ _ _ h => h) rfl hHeld ?_)
  show wpAnyH _ _ _ _ _ _ _ { tmps := _, defers := _ } _
  try unfold Act.put
  try dsimp only
  try simp only [List.setIfInBounds_toArray]
  try simp only [List.set_cons_succ]
  try simp only [List.set_cons_zero]
  first | (refine held_take 6 _ rfl (by kernel_rfl) (by kernel_rfl) (by kernel_rfl) (v := ?_) (fun _ _ _ h => h) ?_ rfl hHeld ?_; rotate_left; focus (intro w hS; have h := HcutB.out w; go_simp; try with_reducible rfl)) | (refine held_skip 6 _ rfl (by kernel_rfl) (by kernel_rfl) (by kernel_rfl) (fun _ _ _ h => h) rfl hHeld ?_)
  show wpAnyH _ _ _ _ _ _ _ { tmps := _, defers := _ } _
  try unfold Act.put
  try dsimp only
  try simp only [List.setIfInBounds_toArray]
  try simp only [List.set_cons_succ]
  try simp only [List.set_cons_zero]
  first | (refine held_take 7 _ rfl (by kernel_rfl) (by kernel_rfl) (by kernel_rfl) (v := ?_) (fun _ _ _ h => h) ?_ rfl hHeld ?_; rotate_left; focus (intro w hS; have h := HTB.out w hS; go_simp; try with_reducible rfl)) | (refine held_skip 7 _ rfl (by kernel_rfl) (by kernel_rfl) (by kernel_rfl) (fun _ _ _ h => h) rfl hHeld ?_)
  show wpAnyH _ _ _ _ _ _ _ { tmps := _, defers := _ } _
  try unfold Act.put
  try dsimp only
  try simp only [List.setIfInBounds_toArray]
  try simp only [List.set_cons_succ]
  try simp only [List.set_cons_zero]
  first | (refine held_take 8 _ rfl (by kernel_rfl) (by kernel_rfl) (by kernel_rfl) (v := ?_) (fun _ _ _ h => h) ?_ rfl hHeld ?_; rotate_left; focus (intro w hS; skip; go_simp; try with_reducible rfl)) | (refine held_skip 8 _ rfl (by kernel_rfl) (by kernel_rfl) (by kernel_rfl) (fun _ _ _ h => h) rfl hHeld ?_)
  show wpAnyH _ _ _ _ _ _ _ { tmps := _, defers := _ } _
  try unfold Act.put
  try dsimp only
  try simp only [List.setIfInBounds_toArray]
  try simp only [List.set_cons_succ]
  try simp only [List.set_cons_zero]
  refine wpAnyH_done (by kernel_rfl) ?_ _
  have HX : Hid (∃ j : Nat, Value.int .i64 0 = .int .i64 ((32 * j : Nat) : Int) ∧ 32 * j ≤ N1 ∧ Hid (S3 wx.drew)) := Lib.hid ⟨0, rfl, Nat.zero_le _, Lib.hid hHeld⟩
  clear hHeld hcap1 hcap2
  go_wp2_with fail
  go_loopw [10] (fun v wr => ∃ j : Nat, v = .int .i64 ((32 * j : Nat) : Int) ∧ 32 * j ≤ N1 ∧ Hid (S3 wr)) (fun v _ => N1 + 32 - (RowKit.intOf v).toNat)
  case atStart => exact HX.out
  case round =>
    clear HX
    obtain ⟨j, rfl, hj, hs3⟩ := hrel
    obtain ⟨i, hi⟩ : ∃ i, 32 * j = i := ⟨_, rfl⟩
    have HI := Lib.hid hi
    rw [hi]
    have hiw : IntKind.i64.wrap ((i : Int) + 32) = (i : Int) + 32 := by rw [IntKind.wrap_i64]; have := HN1.out; omega
    by_cases hlt : i + 32 ≤ N1
    · have hd : decide ((i : Int) + 32 ≤ (N1 : Int)) = true := decide_eq_true (by omega)
      have hti : (i : Int) + 32 ≤ (N1 : Int) := by omega
      have hcapn := (owns_cap7 (HO1u.out _ hs3.out)).1
      -- the last piece
      have hlast : ∃ pl nl cl, (∀ u, S3 u → Bytes u.heap.size u.heap.size pl (lastL l l2 j) u) ∧ nl = (lastL l l2 j).length ∧ nl ≤ cl ∧ ((j = 0 ∧ i = 0 ∧ pl = none ∧ nl = 0 ∧ cl = 0) ∨ (0 < i ∧ nl = 32 ∧ cl = 32 ∧ ∀ u, (Instr.sliceAt 28 (.slice q1 N1 k1) (some (.int .i64 ((i : Int) - 32))) (some (.int .i64 (i : Int))) (some (.int .i64 (i : Int)))).run Tryd.prog u = .ok (.slice pl nl cl) u)) := by
        rcases Nat.eq_zero_or_pos j with h0 | h0
        · subst h0
          exact ⟨none, 0, 0, fun u _ h => absurd rfl h, rfl, Nat.le_refl _, .inl ⟨rfl, by omega, rfl, rfl, rfl⟩⟩
        · obtain ⟨q, hq, hqb⟩ := slice_midm q1 N1 k1 (i - 32) i (by omega) (by omega) hcapn
          have e1 : ((i - 32 : Nat) : Int) = (i : Int) - 32 := by omega
          rw [show i - (i - 32) = 32 by omega, e1] at hq
          have hp := exp_piece l l2 N1 (j - 1) (by omega)
          rw [show 32 * (j - 1) = i - 32 by omega, show j - 1 + 1 = j by omega] at hp
          refine ⟨q, 32, 32, fun u hu => ?_, by rw [← hp, List.length_take, List.length_drop, expL_length]; omega, Nat.le_refl _, .inr ⟨by omega, rfl, rfl, hq⟩⟩
          obtain ⟨q9, c9, he, hnl, hb9⟩ := owns_bytes (HO1u.out u hu) (expL_length _ _ _)
          simp only [Value.slice.injEq, true_and] at he
          obtain ⟨rfl, rfl⟩ := he
          have h := hqb _ u _ _ (expL_length l l2 N1) hb9
          rw [show i - (i - 32) = 32 by omega, hp] at h
          exact h
      obtain ⟨pl, nl, cl, hlb, hnl, hncl, hcase⟩ := hlast
      have HLb := Lib.hid hlb
      have HNl := Lib.hid hnl
      have HNc := Lib.hid hncl
      -- the piece itself
      obtain ⟨q9, hq9, hq9b⟩ := slice_mid q1 N1 k1 i (i + 32) (by omega) hlt hcapn
      rw [show i + 32 - i = 32 by omega] at hq9 hq9b
      have e9 : ((i + 32 : Nat) : Int) = (i : Int) + 32 := by omega
      rw [e9] at hq9
      obtain ⟨kc, hkc⟩ : ∃ z, k1 - i = z := ⟨_, rfl⟩
      rw [hkc] at hq9
      have Hcut9 := Lib.hid hq9
      have hp := exp_piece l l2 N1 j (by omega)
      rw [hi] at hp
      obtain ⟨D, hD⟩ : ∃ D, lastL l l2 (j + 1) = D := ⟨_, rfl⟩
      have HDl : Hid (D.length = 32) := Lib.hid (by rw [← hD]; exact lastL_length _ _ _)
      have HT9 : Hid (∀ u, S3 u → (convert 28 9 (.slice q9 32 kc)).run Tryd.prog u = .ok (.string ⟨D.toArray⟩) u) := Lib.hid (fun u hu => by
        obtain ⟨q7, c7, he, hnl7, hb7⟩ := owns_bytes (HO1u.out u hu) (expL_length _ _ _)
        simp only [Value.slice.injEq, true_and] at he
        obtain ⟨rfl, rfl⟩ := he
        have hb := hq9b _ u _ _ (expL_length l l2 N1) hb7
        rw [hp, hD] at hb
        have hne : q9 = none → D = [] := fun e => by
          rcases List.eq_nil_or_concat D with h0 | ⟨_, _, h0⟩
          · exact h0
          · obtain ⟨pb, off, hpp, _⟩ := hb (by rw [h0]; simp)
            rw [e] at hpp; cases hpp
        have h2 := bytes_text kc hb hne
        rwa [HDl.out] at h2)
      obtain ⟨xb, hxb⟩ : ∃ x, UInt8.ofNat (j + 1) = x := ⟨_, rfl⟩
      have hquo : (i : Int) / 32 = (j : Int) := by omega
      have hxv : IntKind.u8.wrap ((j : Int) + 1) = (xb.toNat : Int) := by rw [IntKind.wrap_u8, ← hxb, UInt8.toNat_ofNat']; omega
      have hjw : IntKind.i64.wrap ((j : Int) + 1) = (j : Int) + 1 := by rw [IntKind.wrap_i64]; have := HN1.out; omega
      have HLs : Hid (hmacL l (lastL l l2 j ++ l2 ++ [xb]) = D) := Lib.hid (by rw [← hD, lastL, hxb])
      obtain ⟨g6, hg6⟩ : ∃ g, wr.heap.size = g := ⟨_, rfl⟩
      obtain ⟨v6, hv6⟩ : ∃ v, v = wr.alloc (.cells (Go.Lib.byteCells [xb]).toArray 5) := ⟨_, rfl⟩
      have hs6 : v6.heap.size = g6 + 1 := by rw [hv6, ← hg6]; simp
      obtain ⟨v7, hv7⟩ : ∃ v, v = v6.alloc (.cells #[.slice pl nl cl, .slice a2 n2 c2, .slice (some ⟨g6, 0, none⟩) 1 1] 28) := ⟨_, rfl⟩
      have HV7 : Hid ((wr.alloc (.cells (Go.Lib.byteCells [xb]).toArray 5)).alloc (.cells #[.slice pl nl cl, .slice a2 n2 c2, .slice (some ⟨g6, 0, none⟩) 1 1] 28) = v7) := Lib.hid (by rw [hv7, hv6])
      have hb6 : Below wr.heap.size wr v6 := by rw [hv6]; exact (Below.refl _ _).alloc (Nat.le_refl _) _
      have hb7 : Below wr.heap.size wr v7 := by rw [hv7]; exact hb6.alloc hb6.size _
      have hS7 : S3 v7 := HS30.out _ ((HS3b.out _ hs3.out).trans (hb7.mono (HS3b.out _ hs3.out).size))
      have hgw := HSW.out _ (HS3S.out _ hS7)
      have hs7 : v7.heap.size = g6 + 1 + 1 := by rw [hv7, World.size_alloc, hs6]
      have h6 : v7.heap[g6]? = some (.cells (Go.Lib.byteCells [xb]).toArray 5 (0, 0)) := by
        rw [hv7, (MapKept.heap_alloc _ _).2 _ (by omega), hv6, ← hg6]; exact heap_last _ _
      have h7 : v7.heap[g6 + 1]? = some (.cells #[.slice pl nl cl, .slice a2 n2 c2, .slice (some ⟨g6, 0, none⟩) 1 1] 28 (0, 0)) := by
        rw [hv7, ← hs6]; exact heap_last _ _
      have hSum := hmacSum_any a c l (some ⟨g6 + 1, 0, none⟩) 3 3 (by decide) (threeF pl a2 (some ⟨g6, 0, none⟩)) (threeF cl c2 1) (threeF (lastL l l2 j) l2 [xb]) v7 (HT.out.below hgw) ((HB.out.keep hgw).at hgw.size hgw.size) HC.out HM.out
        (parts_threeF (by rw [cell_of_heap h7, ← hnl]; rfl) (by rw [cell_of_heap h7, HNN2.out]; rfl) (by rw [cell_of_heap h7]; rfl) (by omega) (hlb v7 hS7) ((HB2.out.keep hgw).at hgw.size hgw.size) (row_bytes h6 (by omega) (by omega)) (by rw [← hnl]; exact hncl) HC2.out (Nat.le_refl 1) (by have := lastL_le l l2 j; omega) HM2.out (by simp))
        (by rw [cat_threeF, List.length_append, List.length_append]; have h1 := lastL_le l l2 j; have h2 := HM2.out; simp only [List.length_singleton]; omega)
      rw [cat_threeF, HLs.out, HNN.out] at hSum
      unfold dig at hSum
      have HSum := Lib.hid hSum
      have HS7 := Lib.hid hS7
      have HIz := Lib.hid (dig_size D HDl.out)
      have HZz : Hid ((Go.Lib.byteCells zero32).toArray.size = (Go.Lib.byteCells D).toArray.size) := Lib.hid (by rw [List.size_toArray, List.size_toArray, bc_len, bc_len, HDl.out]; rfl)
      have H1z := Lib.hid (dig_one D)
      have HNI : Hid (32 * (j + 1) = i + 32 ∧ i + 32 ≤ N1) := Lib.hid ⟨by omega, hlt⟩
      clear hq9 hq9b hp hD hxb hv6 hs6 hv7 hb6 hb7 hS7 hgw hs7 h6 h7 hSum hlb hnl hncl hcapn hi e9 hkc hj
      rcases hcase with ⟨hj0, hi0, rfl, rfl, rfl⟩ | ⟨hpos, rfl, rfl, hcutl⟩
      · have hdp : decide ((0 : Int) < (i : Int)) = false := decide_eq_false (by omega)
        have hnp : ¬ (0 : Int) < (i : Int) := by omega
        clear hj0 hi0
        go_wp2_with fail
        refine calls_at HV7.out ?_
        refine HSum.out.mono ?_
        rintro e w8 ⟨rfl, hb8⟩
        obtain ⟨b9, hb9⟩ : ∃ b, w8.heap.size = b := ⟨_, rfl⟩
        have HB9 := Lib.hid hb9
        obtain ⟨v9, hv9⟩ : ∃ v, v = w8.alloc (.cells (Go.Lib.byteCells D).toArray 48) := ⟨_, rfl⟩
        have HV9 := Lib.hid ((World.setRow_alloc_new w8 (Go.Lib.byteCells zero32).toArray (Go.Lib.byteCells D).toArray 48).trans hv9.symm)
        have hb79 : Below v7.heap.size v7 v9 := by rw [hv9]; exact hb8.alloc hb8.size _
        have HS9 : Hid (S3 v9) := Lib.hid (HS30.out _ ((HS3b.out _ HS7.out).trans (hb79.mono (HS3b.out _ HS7.out).size)))
        have HR9 : Hid (v9.heap[b9]? = some (.cells (Go.Lib.byteCells D).toArray 48 (0, 0))) := Lib.hid (by rw [hv9, ← hb9]; exact heap_last _ _)
        clear hv9 hb8 hb79 hb9
        go_wp2_with (refine wpList_store_row rfl 48 (.tmp 12) (.tmp 95) rfl w8.heap.size (Go.Lib.byteCells D).toArray rfl rfl 48 (Go.Lib.byteCells zero32).toArray (heap_last _ _) HIz.out HZz.out H1z.out ?_; refine wpList_world HV9.out ?_; rw [HB9.out])
        obtain ⟨S9, hS9⟩ : ∃ SS : World → Prop, SS = fun u => Below v9.heap.size v9 u := ⟨_, rfl⟩
        have HS9b : Hid (∀ u, S9 u → Below v9.heap.size v9 u) := Lib.hid (by rw [hS9]; exact fun u h => h)
        have HS90 : Hid (S9 v9.drew) := Lib.hid (by rw [hS9]; exact below_drawn 1 (Below.refl _ _))
        have HS93 : Hid (∀ u, S9 u → S3 u) := Lib.hid (fun u h => HS30.out _ ((HS3b.out _ HS9.out).trans ((HS9b.out u h).mono (HS3b.out _ HS9.out).size)))
        have HTD : Hid (∀ u, S9 u → (convert 28 9 (.slice (some ⟨b9, 0, none⟩) 32 32)).run Tryd.prog u = .ok (.string ⟨D.toArray⟩) u) := Lib.hid (fun u h => by
          have h3 := ((HS9b.out u h).block b9 (Array.getElem?_eq_some_iff.1 HR9.out).1).trans HR9.out
          have hl3 := (Array.getElem?_eq_some_iff.1 h3).1
          have h2 := bytes_text 32 (row_bytes (b := u.heap.size) (K := u.heap.size) h3 hl3 (by omega)) (fun e => by cases e)
          rwa [HDl.out] at h2)
        replace HT9 : Hid (∀ u, S9 u → (convert 28 9 (.slice q9 32 kc)).run Tryd.prog u = .ok (.string ⟨D.toArray⟩) u) := Lib.hid (fun u h => HT9.out u (HS93.out u h))
        obtain ⟨sd, hsd⟩ : ∃ s : ByteArray, (⟨D.toArray⟩ : ByteArray) = s := ⟨_, rfl⟩
        rw [hsd] at HTD HT9
        clear hS9 hsd
        refine wp_region_held_drew (S := S9) (by kernel_rfl) HS90.out (fun hHeld => ?_)
        first | (refine held_take 0 _ rfl (by kernel_rfl) (by kernel_rfl) (by kernel_rfl) (v := ?_) (fun _ _ _ h => h) ?_ rfl hHeld ?_; rotate_left; focus (intro w hS; skip; go_simp; try with_reducible rfl)) | (refine held_skip 0 _ rfl (by kernel_rfl) (by kernel_rfl) (by kernel_rfl) (fun _ _ _ h => h) rfl hHeld ?_)
        show wpAnyH _ _ _ _ _ _ _ { tmps := _, defers := _ } _
        try unfold Act.put
        try dsimp only
        try simp only [List.setIfInBounds_toArray]
        try simp only [List.set_cons_succ]
        try simp only [List.set_cons_zero]
        first | (refine held_take 1 _ rfl (by kernel_rfl) (by kernel_rfl) (by kernel_rfl) (v := ?_) (fun _ _ _ h => h) ?_ rfl hHeld ?_; rotate_left; focus (intro w hS; have h := HTD.out w hS; go_simp; try with_reducible rfl)) | (refine held_skip 1 _ rfl (by kernel_rfl) (by kernel_rfl) (by kernel_rfl) (fun _ _ _ h => h) rfl hHeld ?_)
        show wpAnyH _ _ _ _ _ _ _ { tmps := _, defers := _ } _
        try unfold Act.put
        try dsimp only
        try simp only [List.setIfInBounds_toArray]
        try simp only [List.set_cons_succ]
        try simp only [List.set_cons_zero]
        first | (refine held_take 2 _ rfl (by kernel_rfl) (by kernel_rfl) (by kernel_rfl) (v := ?_) (fun _ _ _ h => h) ?_ rfl hHeld ?_; rotate_left; focus (intro w hS; skip; go_simp; try with_reducible rfl)) | (refine held_skip 2 _ rfl (by kernel_rfl) (by kernel_rfl) (by kernel_rfl) (fun _ _ _ h => h) rfl hHeld ?_)
        show wpAnyH _ _ _ _ _ _ _ { tmps := _, defers := _ } _
        try unfold Act.put
        try dsimp only
        try simp only [List.setIfInBounds_toArray]
        try simp only [List.set_cons_succ]
        try simp only [List.set_cons_zero]
        first | (refine held_take 3 _ rfl (by kernel_rfl) (by kernel_rfl) (by kernel_rfl) (v := ?_) (fun _ _ _ h => h) ?_ rfl hHeld ?_; rotate_left; focus (intro w hS; skip; go_simp; try with_reducible rfl)) | (refine held_skip 3 _ rfl (by kernel_rfl) (by kernel_rfl) (by kernel_rfl) (fun _ _ _ h => h) rfl hHeld ?_)
        show wpAnyH _ _ _ _ _ _ _ { tmps := _, defers := _ } _
        try unfold Act.put
        try dsimp only
        try simp only [List.setIfInBounds_toArray]
        try simp only [List.set_cons_succ]
        try simp only [List.set_cons_zero]
        first | (refine held_take 4 _ rfl (by kernel_rfl) (by kernel_rfl) (by kernel_rfl) (v := ?_) (fun _ _ _ h => h) ?_ rfl hHeld ?_; rotate_left; focus (intro w hS; skip; go_simp; try with_reducible rfl)) | (refine held_skip 4 _ rfl (by kernel_rfl) (by kernel_rfl) (by kernel_rfl) (fun _ _ _ h => h) rfl hHeld ?_)
        show wpAnyH _ _ _ _ _ _ _ { tmps := _, defers := _ } _
        try unfold Act.put
        try dsimp only
        try simp only [List.setIfInBounds_toArray]
        try simp only [List.set_cons_succ]
        try simp only [List.set_cons_zero]
        first | (refine held_take 5 _ rfl (by kernel_rfl) (by kernel_rfl) (by kernel_rfl) (v := ?_) (fun _ _ _ h => h) ?_ rfl hHeld ?_; rotate_left; focus (intro w hS; skip; go_simp; try with_reducible rfl)) | (refine held_skip 5 _ rfl (by kernel_rfl) (by kernel_rfl) (by kernel_rfl) (fun _ _ _ h => h) rfl hHeld ?_)
        show wpAnyH _ _ _ _ _ _ _ { tmps := _, defers := _ } _
        try unfold Act.put
        try dsimp only
        try simp only [List.setIfInBounds_toArray]
        try simp only [List.set_cons_succ]
        try simp only [List.set_cons_zero]
        first | (refine held_take 6 _ rfl (by kernel_rfl) (by kernel_rfl) (by kernel_rfl) (v := ?_) (fun _ _ _ h => h) ?_ rfl hHeld ?_; rotate_left; focus (intro w hS; have h := Hcut9.out w; go_simp; try with_reducible rfl)) | (refine held_skip 6 _ rfl (by kernel_rfl) (by kernel_rfl) (by kernel_rfl) (fun _ _ _ h => h) rfl hHeld ?_)
        show wpAnyH _ _ _ _ _ _ _ { tmps := _, defers := _ } _
        try unfold Act.put
        try dsimp only
        try simp only [List.setIfInBounds_toArray]
        try simp only [List.set_cons_succ]
        try simp only [List.set_cons_zero]
        first | (refine held_take 7 _ rfl (by kernel_rfl) (by kernel_rfl) (by kernel_rfl) (v := ?_) (fun _ _ _ h => h) ?_ rfl hHeld ?_; rotate_left; focus (intro w hS; have h := HT9.out w hS; go_simp; try with_reducible rfl)) | (refine held_skip 7 _ rfl (by kernel_rfl) (by kernel_rfl) (by kernel_rfl) (fun _ _ _ h => h) rfl hHeld ?_)
        show wpAnyH _ _ _ _ _ _ _ { tmps := _, defers := _ } _
        try unfold Act.put
        try dsimp only
        try simp only [List.setIfInBounds_toArray]
        try simp only [List.set_cons_succ]
        try simp only [List.set_cons_zero]
        first | (refine held_take 8 _ rfl (by kernel_rfl) (by kernel_rfl) (by kernel_rfl) (v := ?_) (fun _ _ _ h => h) ?_ rfl hHeld ?_; rotate_left; focus (intro w hS; skip; go_simp; try with_reducible rfl)) | (refine held_skip 8 _ rfl (by kernel_rfl) (by kernel_rfl) (by kernel_rfl) (fun _ _ _ h => h) rfl hHeld ?_)
        show wpAnyH _ _ _ _ _ _ _ { tmps := _, defers := _ } _
        try unfold Act.put
        try dsimp only
        try simp only [List.setIfInBounds_toArray]
        try simp only [List.set_cons_succ]
        try simp only [List.set_cons_zero]
        refine wpAnyH_done (by kernel_rfl) ?_ _
        have HSf : Hid (S3 v9.drew) := Lib.hid (HS93.out _ hHeld)
        clear hHeld hquo hxv hjw
        go_wp2_with fail
        go_roundw
        case rel => exact ⟨j + 1, congrArg (Value.int .i64) (by have := HNI.out.1; omega), by rw [HNI.out.1]; exact HNI.out.2, HSf⟩
        case measure => simp [RowKit.intOf]; have := HNI.out; omega
      · have hdp : decide ((0 : Int) < (i : Int)) = true := decide_eq_true (by omega)
        have hpp : (0 : Int) < (i : Int) := by omega
        have hi8 : (i : Int) ≤ 8160 := by have := HN1.out; have := HNI.out; omega
        have hsw : IntKind.i64.wrap ((i : Int) - 32) = (i : Int) - 32 := by rw [IntKind.wrap_i64]; omega
        clear hpos
        go_wp2_with fail
        refine calls_at HV7.out ?_
        refine HSum.out.mono ?_
        rintro e w8 ⟨rfl, hb8⟩
        obtain ⟨b9, hb9⟩ : ∃ b, w8.heap.size = b := ⟨_, rfl⟩
        have HB9 := Lib.hid hb9
        obtain ⟨v9, hv9⟩ : ∃ v, v = w8.alloc (.cells (Go.Lib.byteCells D).toArray 48) := ⟨_, rfl⟩
        have HV9 := Lib.hid ((World.setRow_alloc_new w8 (Go.Lib.byteCells zero32).toArray (Go.Lib.byteCells D).toArray 48).trans hv9.symm)
        have hb79 : Below v7.heap.size v7 v9 := by rw [hv9]; exact hb8.alloc hb8.size _
        have HS9 : Hid (S3 v9) := Lib.hid (HS30.out _ ((HS3b.out _ HS7.out).trans (hb79.mono (HS3b.out _ HS7.out).size)))
        have HR9 : Hid (v9.heap[b9]? = some (.cells (Go.Lib.byteCells D).toArray 48 (0, 0))) := Lib.hid (by rw [hv9, ← hb9]; exact heap_last _ _)
        clear hv9 hb8 hb79 hb9
        go_wp2_with (refine wpList_store_row rfl 48 (.tmp 12) (.tmp 95) rfl w8.heap.size (Go.Lib.byteCells D).toArray rfl rfl 48 (Go.Lib.byteCells zero32).toArray (heap_last _ _) HIz.out HZz.out H1z.out ?_; refine wpList_world HV9.out ?_; rw [HB9.out])
        obtain ⟨S9, hS9⟩ : ∃ SS : World → Prop, SS = fun u => Below v9.heap.size v9 u := ⟨_, rfl⟩
        have HS9b : Hid (∀ u, S9 u → Below v9.heap.size v9 u) := Lib.hid (by rw [hS9]; exact fun u h => h)
        have HS90 : Hid (S9 v9.drew) := Lib.hid (by rw [hS9]; exact below_drawn 1 (Below.refl _ _))
        have HS93 : Hid (∀ u, S9 u → S3 u) := Lib.hid (fun u h => HS30.out _ ((HS3b.out _ HS9.out).trans ((HS9b.out u h).mono (HS3b.out _ HS9.out).size)))
        have HTD : Hid (∀ u, S9 u → (convert 28 9 (.slice (some ⟨b9, 0, none⟩) 32 32)).run Tryd.prog u = .ok (.string ⟨D.toArray⟩) u) := Lib.hid (fun u h => by
          have h3 := ((HS9b.out u h).block b9 (Array.getElem?_eq_some_iff.1 HR9.out).1).trans HR9.out
          have hl3 := (Array.getElem?_eq_some_iff.1 h3).1
          have h2 := bytes_text 32 (row_bytes (b := u.heap.size) (K := u.heap.size) h3 hl3 (by omega)) (fun e => by cases e)
          rwa [HDl.out] at h2)
        replace HT9 : Hid (∀ u, S9 u → (convert 28 9 (.slice q9 32 kc)).run Tryd.prog u = .ok (.string ⟨D.toArray⟩) u) := Lib.hid (fun u h => HT9.out u (HS93.out u h))
        obtain ⟨sd, hsd⟩ : ∃ s : ByteArray, (⟨D.toArray⟩ : ByteArray) = s := ⟨_, rfl⟩
        rw [hsd] at HTD HT9
        clear hS9 hsd
        refine wp_region_held_drew (S := S9) (by kernel_rfl) HS90.out (fun hHeld => ?_)
        first | (refine held_take 0 _ rfl (by kernel_rfl) (by kernel_rfl) (by kernel_rfl) (v := ?_) (fun _ _ _ h => h) ?_ rfl hHeld ?_; rotate_left; focus (intro w hS; skip; go_simp; try with_reducible rfl)) | (refine held_skip 0 _ rfl (by kernel_rfl) (by kernel_rfl) (by kernel_rfl) (fun _ _ _ h => h) rfl hHeld ?_)
        show wpAnyH _ _ _ _ _ _ _ { tmps := _, defers := _ } _
        try unfold Act.put
        try dsimp only
        try simp only [List.setIfInBounds_toArray]
        try simp only [List.set_cons_succ]
        try simp only [List.set_cons_zero]
        first | (refine held_take 1 _ rfl (by kernel_rfl) (by kernel_rfl) (by kernel_rfl) (v := ?_) (fun _ _ _ h => h) ?_ rfl hHeld ?_; rotate_left; focus (intro w hS; have h := HTD.out w hS; go_simp; try with_reducible rfl)) | (refine held_skip 1 _ rfl (by kernel_rfl) (by kernel_rfl) (by kernel_rfl) (fun _ _ _ h => h) rfl hHeld ?_)
        show wpAnyH _ _ _ _ _ _ _ { tmps := _, defers := _ } _
        try unfold Act.put
        try dsimp only
        try simp only [List.setIfInBounds_toArray]
        try simp only [List.set_cons_succ]
        try simp only [List.set_cons_zero]
        first | (refine held_take 2 _ rfl (by kernel_rfl) (by kernel_rfl) (by kernel_rfl) (v := ?_) (fun _ _ _ h => h) ?_ rfl hHeld ?_; rotate_left; focus (intro w hS; skip; go_simp; try with_reducible rfl)) | (refine held_skip 2 _ rfl (by kernel_rfl) (by kernel_rfl) (by kernel_rfl) (fun _ _ _ h => h) rfl hHeld ?_)
        show wpAnyH _ _ _ _ _ _ _ { tmps := _, defers := _ } _
        try unfold Act.put
        try dsimp only
        try simp only [List.setIfInBounds_toArray]
        try simp only [List.set_cons_succ]
        try simp only [List.set_cons_zero]
        first | (refine held_take 3 _ rfl (by kernel_rfl) (by kernel_rfl) (by kernel_rfl) (v := ?_) (fun _ _ _ h => h) ?_ rfl hHeld ?_; rotate_left; focus (intro w hS; skip; go_simp; try with_reducible rfl)) | (refine held_skip 3 _ rfl (by kernel_rfl) (by kernel_rfl) (by kernel_rfl) (fun _ _ _ h => h) rfl hHeld ?_)
        show wpAnyH _ _ _ _ _ _ _ { tmps := _, defers := _ } _
        try unfold Act.put
        try dsimp only
        try simp only [List.setIfInBounds_toArray]
        try simp only [List.set_cons_succ]
        try simp only [List.set_cons_zero]
        first | (refine held_take 4 _ rfl (by kernel_rfl) (by kernel_rfl) (by kernel_rfl) (v := ?_) (fun _ _ _ h => h) ?_ rfl hHeld ?_; rotate_left; focus (intro w hS; skip; go_simp; try with_reducible rfl)) | (refine held_skip 4 _ rfl (by kernel_rfl) (by kernel_rfl) (by kernel_rfl) (fun _ _ _ h => h) rfl hHeld ?_)
        show wpAnyH _ _ _ _ _ _ _ { tmps := _, defers := _ } _
        try unfold Act.put
        try dsimp only
        try simp only [List.setIfInBounds_toArray]
        try simp only [List.set_cons_succ]
        try simp only [List.set_cons_zero]
        first | (refine held_take 5 _ rfl (by kernel_rfl) (by kernel_rfl) (by kernel_rfl) (v := ?_) (fun _ _ _ h => h) ?_ rfl hHeld ?_; rotate_left; focus (intro w hS; skip; go_simp; try with_reducible rfl)) | (refine held_skip 5 _ rfl (by kernel_rfl) (by kernel_rfl) (by kernel_rfl) (fun _ _ _ h => h) rfl hHeld ?_)
        show wpAnyH _ _ _ _ _ _ _ { tmps := _, defers := _ } _
        try unfold Act.put
        try dsimp only
        try simp only [List.setIfInBounds_toArray]
        try simp only [List.set_cons_succ]
        try simp only [List.set_cons_zero]
        first | (refine held_take 6 _ rfl (by kernel_rfl) (by kernel_rfl) (by kernel_rfl) (v := ?_) (fun _ _ _ h => h) ?_ rfl hHeld ?_; rotate_left; focus (intro w hS; have h := Hcut9.out w; go_simp; try with_reducible rfl)) | (refine held_skip 6 _ rfl (by kernel_rfl) (by kernel_rfl) (by kernel_rfl) (fun _ _ _ h => h) rfl hHeld ?_)
        show wpAnyH _ _ _ _ _ _ _ { tmps := _, defers := _ } _
        try unfold Act.put
        try dsimp only
        try simp only [List.setIfInBounds_toArray]
        try simp only [List.set_cons_succ]
        try simp only [List.set_cons_zero]
        first | (refine held_take 7 _ rfl (by kernel_rfl) (by kernel_rfl) (by kernel_rfl) (v := ?_) (fun _ _ _ h => h) ?_ rfl hHeld ?_; rotate_left; focus (intro w hS; have h := HT9.out w hS; go_simp; try with_reducible rfl)) | (refine held_skip 7 _ rfl (by kernel_rfl) (by kernel_rfl) (by kernel_rfl) (fun _ _ _ h => h) rfl hHeld ?_)
        show wpAnyH _ _ _ _ _ _ _ { tmps := _, defers := _ } _
        try unfold Act.put
        try dsimp only
        try simp only [List.setIfInBounds_toArray]
        try simp only [List.set_cons_succ]
        try simp only [List.set_cons_zero]
        first | (refine held_take 8 _ rfl (by kernel_rfl) (by kernel_rfl) (by kernel_rfl) (v := ?_) (fun _ _ _ h => h) ?_ rfl hHeld ?_; rotate_left; focus (intro w hS; skip; go_simp; try with_reducible rfl)) | (refine held_skip 8 _ rfl (by kernel_rfl) (by kernel_rfl) (by kernel_rfl) (fun _ _ _ h => h) rfl hHeld ?_)
        show wpAnyH _ _ _ _ _ _ _ { tmps := _, defers := _ } _
        try unfold Act.put
        try dsimp only
        try simp only [List.setIfInBounds_toArray]
        try simp only [List.set_cons_succ]
        try simp only [List.set_cons_zero]
        refine wpAnyH_done (by kernel_rfl) ?_ _
        have HSf : Hid (S3 v9.drew) := Lib.hid (HS93.out _ hHeld)
        clear hHeld hquo hxv hjw
        go_wp2_with fail
        go_roundw
        case rel => exact ⟨j + 1, congrArg (Value.int .i64) (by have := HNI.out.1; omega), by rw [HNI.out.1]; exact HNI.out.2, HSf⟩
        case measure => simp [RowKit.intOf]; have := HNI.out; omega
    · have hd : decide ((i : Int) + 32 ≤ (N1 : Int)) = false := decide_eq_false (by omega)
      have hti : ¬ (i : Int) + 32 ≤ (N1 : Int) := by omega
      have HWk := Lib.hid (wakes7_any wr (HT.out.below (HSW.out _ (HS3S.out _ hs3.out))))
      have HGf := Lib.hid (HSW.out _ (HS3S.out _ hs3.out))
      clear hj hi hlt
      go_wp2_with fail
      refine HWk.out.mono ?_
      rintro e wa ⟨rfl, hba⟩
      have HGa := Lib.hid (HGf.out.trans (hba.mono HGf.out.size))
      clear hba
      go_wp2_with fail
      go_ret
      exact ⟨rfl, HGa.out⟩
end Go.Proofs.YtjjahcidncnogaaDoor
