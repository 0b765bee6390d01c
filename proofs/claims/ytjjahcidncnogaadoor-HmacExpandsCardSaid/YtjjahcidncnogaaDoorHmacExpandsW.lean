/- HmacExpands, walked: every key, every info, every number of bytes; new memory. -/
import Derived.Test.YtjjahcidncnogaaDoorSpoil
import Derived.Test.YtjjahcidncnogaaDoorRefExpand
import Derived.Test.YtjjahcidncnogaaDoorExpand
import Derived.Test.YtjjahcidncnogaaDoorMacWake7
import Derived.Test.YtjjahcidncnogaaDoorShaPadC
namespace Go.Proofs.YtjjahcidncnogaaDoor
open Go.ChangeShapes Go.WideShapes Go.ChangeAt Go.RowKit Go.Lib

theorem own_text {w : World} {B n c : Nat} {q : Option Addr} {L : List UInt8} (h : w.ownsRow B 5 1 (.slice q n c) n (Go.Lib.byteCells L)) (hl : L.length = n) : (convert 28 9 (.slice q n c)).run Tryd.prog w = .ok (.string ⟨L.toArray⟩) w := by
  obtain ⟨q9, c9, he, hnl, hb9⟩ := owns_bytes h hl
  simp only [Value.slice.injEq, true_and] at he
  obtain ⟨rfl, rfl⟩ := he
  have h2 := bytes_text c hb9 hnl
  rwa [hl] at h2
theorem owns_cap8 {w : World} {B n c : Nat} {q : Option Addr} {xs : List Value} (h : w.ownsRow B 5 1 (.slice q n c) n xs) : n ≤ c := by
  rcases h.2 with ⟨hv, h0⟩ | ⟨g, cap, cur, hv, _, _, hnc, _⟩
  · omega
  · simp only [Value.slice.injEq] at hv
    obtain ⟨-, -, rfl⟩ := hv
    exact hnc
theorem blk_lt {w : World} {B n c : Nat} {q : Option Addr} {xs : List Value} (h : w.ownsRow B 5 1 (.slice q n c) n xs) : ∀ k, blkOf q = some k → B ≤ k ∧ k < w.heap.size := fun k hk => h.lt k ((ownBlock_slice q n c).trans hk)

set_option maxRecDepth 100000 in
set_option maxHeartbeats 1000000 in
theorem expandLess_any (u v : Value) (x : Int) (hx : x < 0) (w : World) : Calls Tryd.prog 47 #[u, v, .int .i64 x] w fun e w' => e = .returned (.tuple #[.slice none 0 0, .iface 85 (.int .i64 2)]) ∧ w' = w := by
  have hd : decide (x < 0) = true := decide_eq_true hx
  go_enter Tryd.func47, Tryd.ntmps47
  go_wp2_with fail
  go_returns
  exact ⟨rfl, rfl⟩
set_option maxRecDepth 100000 in
set_option maxHeartbeats 1000000 in
theorem expandMore_any (u v : Value) (x : Int) (hx : 8160 < x) (w : World) : Calls Tryd.prog 47 #[u, v, .int .i64 x] w fun e w' => e = .returned (.tuple #[.slice none 0 0, .iface 85 (.int .i64 3)]) ∧ w' = w := by
  have hd : decide (x < 0) = false := decide_eq_false (by omega)
  have hd1 : decide (8160 < x) = true := decide_eq_true hx
  have hn0 : ¬ x < 0 := by omega
  go_enter Tryd.func47, Tryd.ntmps47
  go_wp2_with fail
  go_returns
  exact ⟨rfl, rfl⟩
set_option maxRecDepth 100000 in
set_option maxHeartbeats 1000000 in
theorem number7_any (n : Int) (hn : n = 2 ∨ n = 3) (w : World) : Calls Tryd.prog 48 #[.iface 85 (.int .i64 n), .int .i64 n] w fun e w' => e = .returned (.bool true) ∧ w' = w := by
  have ha := assertErrno
  rcases hn with rfl | rfl
  all_goals
    go_enter Tryd.func48, Tryd.ntmps48
    go_wp2_with fail
    go_ret
    exact ⟨rfl, rfl⟩

set_option maxRecDepth 100000 in
set_option maxHeartbeats 4000000 in
theorem hmacExpands_walk (a : Option Addr) (c : Nat) (l : List UInt8) (a2 : Option Addr) (c2 : Nat) (l2 : List UInt8) (x : Int) (W : World) (hT : Tab W) (hn : a = none → l = []) (hB : Bytes W.heap.size W.heap.size a l W) (hm : l.length ≤ 140737488351232) (_ : l.length ≤ c) (hk : a = none → c = 0)
    (hn2 : a2 = none → l2 = []) (hB2 : Bytes W.heap.size W.heap.size a2 l2 W) (hm2 : l2.length ≤ 140737488351232) (_ : l2.length ≤ c2) (hk2 : a2 = none → c2 = 0) (_ : (Lit.int .i64 x).wf = true) :
    Calls Tryd.prog 7 #[.slice a l.length c, .slice a2 l2.length c2, .int .i64 x] W fun e w' => e = .returned (.bool true) ∧ Below W.heap.size W w' := by
  have HT := Lib.hid hT
  have HL1 := Lib.hid (lent_any a c l W (fun e => ⟨hn e, hk e⟩) hB hm)
  have HL2 := Lib.hid (fun u (hu : Below W.heap.size W u) => lent_any a2 c2 l2 u (fun e => ⟨hn2 e, hk2 e⟩) ((hB2.keep hu).at hu.size hu.size) hm2)
  have HK1 := Lib.hid (fun g cap u (hu : Below W.heap.size W u) (hL : Lent u g cap l) => kept_any g cap a c l u hn ((hB.keep hu).at hu.size hu.size) hm hL)
  have HK2 := Lib.hid (fun g cap u (hu : Below W.heap.size W u) (hL : Lent u g cap l2) => kept_any g cap a2 c2 l2 u hn2 ((hB2.keep hu).at hu.size hu.size) hm2 hL)
  have HRf := Lib.hid (fun u (hu : Below W.heap.size W u) (N : Nat) (hN : N ≤ 8160) => refExpand_any a c l a2 c2 l2 N hN u ((hB.keep hu).at hu.size hu.size) hm (fun e => ⟨hn2 e, hk2 e⟩) ((hB2.keep hu).at hu.size hu.size) hm2)
  have HEx := Lib.hid (fun g cap g2 cap2 u (hu : Below W.heap.size W u) (hL : Lent u g cap l) (hL2 : Lent u g2 cap2 l2) (N : Nat) (hN : N ≤ 8160) => expand_any (some ⟨g, 0, none⟩) cap l (some ⟨g2, 0, none⟩) cap2 l2 N hN u (hT.below hu) hL.bytes (by have := hL.fit; omega) hm hL2.bytes (by have := hL2.fit; omega) hm2)
  obtain ⟨m, hmm⟩ : ∃ m, l.length = m := ⟨_, rfl⟩
  obtain ⟨m2, hmm2⟩ : ∃ m, l2.length = m := ⟨_, rfl⟩
  rw [hmm] at HL1 HK1 HRf HEx ⊢
  rw [hmm2] at HL2 HK2 HRf HEx ⊢
  clear hT hn hB hm hk hn2 hB2 hm2 hk2 hmm hmm2
  go_enter Tryd.func7, Tryd.ntmps7
  go_wp2_with fail
  refine HL1.out.mono ?_
  rintro e w1 ⟨g, cap, rfl, hgl, hL, hb1⟩
  have HLa := Lib.hid hL
  have HG1 := Lib.hid hb1
  clear hL hb1 hgl
  go_wp2_with fail
  refine (HL2.out _ HG1.out).mono ?_
  rintro e w2 ⟨g2, cap2, rfl, hgl2, hL2, hb2⟩
  have HG2 : Hid (Below W.heap.size W w2) := Lib.hid (HG1.out.trans (hb2.mono HG1.out.size))
  have HS : Hid (∀ u, Below w2.heap.size w2 u → Below W.heap.size W u) := Lib.hid (fun u h => HG2.out.trans (h.mono HG2.out.size))
  have HLs : Hid (∀ u, Below w2.heap.size w2 u → Lent u g cap l ∧ Lent u g2 cap2 l2) := Lib.hid (fun u h => ⟨(HLa.out.below hb2).below h, hL2.below h⟩)
  have HEx2 : Hid (∀ u, Below w2.heap.size w2 u → ∀ N : Nat, N ≤ 8160 → Calls Tryd.prog 47 #[.slice (some ⟨g, 0, none⟩) m cap, .slice (some ⟨g2, 0, none⟩) m2 cap2, .int .i64 (N : Int)] u fun e w' => ∃ q k, e = .returned (.tuple #[.slice q N k, .nilIface]) ∧ w'.ownsRow u.heap.size 5 1 (.slice q N k) N (Go.Lib.byteCells (expL l l2 N)) ∧ Below u.heap.size u w') := Lib.hid (fun u h N hN => HEx.out g cap g2 cap2 u (HS.out u h) (HLs.out u h).1 (HLs.out u h).2 N hN)
  have HK1' : Hid (∀ u, Below w2.heap.size w2 u → Calls Tryd.prog 33 #[.slice (some ⟨g, 0, none⟩) m cap, .slice a m c] u fun e w' => e = .returned (.bool true) ∧ w' = u) := Lib.hid (fun u h => HK1.out g cap u (HS.out u h) (HLs.out u h).1)
  have HK2' : Hid (∀ u, Below w2.heap.size w2 u → Calls Tryd.prog 33 #[.slice (some ⟨g2, 0, none⟩) m2 cap2, .slice a2 m2 c2] u fun e w' => e = .returned (.bool true) ∧ w' = u) := Lib.hid (fun u h => HK2.out g2 cap2 u (HS.out u h) (HLs.out u h).2)
  have HWk : Hid (∀ u, Below w2.heap.size w2 u → Calls Tryd.prog 38 #[] u fun e w' => e = .returned (.bool true) ∧ Below u.heap.size u w') := Lib.hid (fun u h => wakes7_any u (HT.out.below (HS.out u h)))
  clear hL2 hb2 hgl2 HLa HK1 HK2 HEx HL1 HL2
  rcases Int.lt_or_le x 0 with hneg | hneg
  · have HEl := Lib.hid (fun u v w => expandLess_any u v x hneg w)
    have HNu := Lib.hid (number7_any 2 (.inl rfl))
    have hd : decide (x < 0) = true := decide_eq_true hneg
    go_wp2_with fail
    refine (HEl.out _ _ _).mono ?_
    rintro e w3 ⟨rfl, rfl⟩
    go_wp2_with fail
    refine (HNu.out _).mono ?_
    rintro e w3 ⟨rfl, rfl⟩
    go_wp2_with fail
    refine (HWk.out _ (Below.refl _ _)).mono ?_
    rintro e w4 ⟨rfl, hb4⟩
    have HGf := Lib.hid (HS.out _ hb4)
    clear hb4
    go_wp2_with fail
    go_ret
    exact ⟨rfl, HGf.out⟩
  rcases Int.lt_or_le 8160 x with hbig | hbig
  · have HEl := Lib.hid (fun u v w => expandMore_any u v x hbig w)
    have HNu := Lib.hid (number7_any 3 (.inr rfl))
    have hd : decide (x < 0) = false := decide_eq_false (by omega)
    have hnn : ¬ x < 0 := by omega
    have hd1 : decide (8160 < x) = true := decide_eq_true hbig
    go_wp2_with fail
    refine (HEl.out _ _ _).mono ?_
    rintro e w3 ⟨rfl, rfl⟩
    go_wp2_with fail
    refine (HNu.out _).mono ?_
    rintro e w3 ⟨rfl, rfl⟩
    go_wp2_with fail
    refine (HWk.out _ (Below.refl _ _)).mono ?_
    rintro e w4 ⟨rfl, hb4⟩
    have HGf := Lib.hid (HS.out _ hb4)
    clear hb4
    go_wp2_with fail
    go_ret
    exact ⟨rfl, HGf.out⟩
  obtain ⟨N, rfl⟩ : ∃ N : Nat, x = (N : Int) := ⟨x.toNat, by omega⟩
  have HN : Hid (N ≤ 8160) := Lib.hid (by omega)
  have HN2 : Hid (N ≤ 140737488351232) := Lib.hid (by omega)
  obtain ⟨L, hL⟩ : ∃ L, expL l l2 N = L := ⟨_, rfl⟩
  have HLl : Hid (L.length = N) := Lib.hid (by rw [← hL]; exact expL_length _ _ _)
  obtain ⟨st, hst⟩ : ∃ s : ByteArray, (⟨L.toArray⟩ : ByteArray) = s := ⟨_, rfl⟩
  have HSt := Lib.hid hst
  have HEx3 : Hid (∀ u, Below w2.heap.size w2 u → Calls Tryd.prog 47 #[.slice (some ⟨g, 0, none⟩) m cap, .slice (some ⟨g2, 0, none⟩) m2 cap2, .int .i64 (N : Int)] u fun e w' => ∃ q k, e = .returned (.tuple #[.slice q N k, .nilIface]) ∧ w'.ownsRow u.heap.size 5 1 (.slice q N k) N (Go.Lib.byteCells L) ∧ Below u.heap.size u w') := Lib.hid (fun u h => by rw [← hL]; exact HEx2.out u h N HN.out)
  have HRf3 : Hid (∀ u, Below w2.heap.size w2 u → Calls Tryd.prog 49 #[.slice a m c, .slice a2 m2 c2, .int .i64 (N : Int)] u fun e w' => ∃ q k, e = .returned (.slice q N k) ∧ w'.ownsRow u.heap.size 5 1 (.slice q N k) N (Go.Lib.byteCells L) ∧ Below u.heap.size u w') := Lib.hid (fun u h => by rw [← hL]; exact HRf.out u (HS.out u h) N HN.out)
  have hd : decide ((N : Int) < 0) = false := decide_eq_false (by omega)
  have hd1 : decide (8160 < (N : Int)) = false := decide_eq_false (by omega)
  have hnb : ¬ (8160 : Int) < (N : Int) := by omega
  clear hneg hbig hL hst HEx2 HRf HN HT
  go_wp2_with fail
  refine (HEx3.out _ (Below.refl _ _)).mono ?_
  rintro e w3 ⟨q1, k1, rfl, ho1, hb3⟩
  have HS3 := Lib.hid hb3
  have HO1 := Lib.hid ho1
  clear ho1 hb3
  go_wp2_with fail
  refine (HRf3.out _ HS3.out).mono ?_
  rintro e w4 ⟨qr, kr, rfl, hor, hb4⟩
  have HS4 : Hid (Below w2.heap.size w2 w4) := Lib.hid (HS3.out.trans (hb4.mono HS3.out.size))
  have HO14 : Hid (w4.ownsRow w2.heap.size 5 1 (.slice q1 N k1) N (Go.Lib.byteCells L)) := Lib.hid (owns_keeps HO1.out (fun j _ hj => hb4.block j hj))
  have htr := own_text hor HLl.out
  rw [HSt.out] at htr
  clear hor hb4 hd hd1 hnb HO1
  go_wp2_with fail
  clear htr
  refine (HEx3.out _ HS4.out).mono ?_
  rintro e w5 ⟨q2, k2, rfl, ho2, hb5⟩
  have HS5 : Hid (Below w2.heap.size w2 w5) := Lib.hid (HS4.out.trans (hb5.mono HS4.out.size))
  have HO15 : Hid (w5.ownsRow w2.heap.size 5 1 (.slice q1 N k1) N (Go.Lib.byteCells L)) := Lib.hid (owns_keeps HO14.out (fun j _ hj => hb5.block j hj))
  have HO2 := Lib.hid ho2
  have ht1 := own_text HO15.out HLl.out
  have ht2 := own_text HO2.out HLl.out
  rw [HSt.out] at ht1 ht2
  have HNe : Hid (∀ k, blkOf q2 = some k → blkOf q1 ≠ some k) := Lib.hid (fun k h2 h1 => by
    have e1 := (blk_lt HO14.out k h1).2
    have e2 := (blk_lt HO2.out k h2).1
    omega)
  have HK1f := Lib.hid (HK1'.out _ HS5.out)
  have HK2f := Lib.hid (HK2'.out _ HS5.out)
  have HB2f : Hid (∀ k, blkOf q2 = some k → w2.heap.size ≤ k) := Lib.hid (fun k h => Nat.le_trans HS4.out.size (blk_lt HO2.out k h).1)
  have HSp := Lib.hid (spoil_any q1 N k1 68 w5 (rm_owns HO15.out) (owns_cap8 HO15.out) HN2.out)
  clear ho2 hb5 HO14
  go_wp2_with fail
  refine HK1f.out.mono ?_
  rintro e wx ⟨rfl, rfl⟩
  go_wp2_with fail
  refine HK2f.out.mono ?_
  rintro e wx ⟨rfl, rfl⟩
  clear ht1 ht2
  go_wp2_with fail
  refine HSp.out.mono ?_
  rintro e w6 ⟨rfl, hg6⟩
  have HS6 : Hid (Below w2.heap.size w2 w6) := Lib.hid (HS5.out.grown hg6 HS5.out.size (fun k hk => (blk_lt HO15.out k hk).1))
  have HO26 : Hid (w6.ownsRow w4.heap.size 5 1 (.slice q2 N k2) N (Go.Lib.byteCells L)) := Lib.hid (owns_other HO2.out hg6 (fun k hk => HNe.out k ((ownBlock_slice q2 N k2).symm.trans hk)))
  have ht2 := own_text HO26.out HLl.out
  rw [HSt.out] at ht2
  have HSp2 := Lib.hid (spoil_any q2 N k2 85 w6 (rm_owns HO26.out) (owns_cap8 HO26.out) HN2.out)
  clear hg6
  go_wp2_with fail
  clear ht2
  refine HSp2.out.mono ?_
  rintro e w7 ⟨rfl, hg7⟩
  have HS7 : Hid (Below w2.heap.size w2 w7) := Lib.hid (HS6.out.grown hg7 HS6.out.size (fun k hk => HB2f.out k hk))
  clear hg7
  go_wp2_with fail
  refine (HEx3.out _ HS7.out).mono ?_
  rintro e w8 ⟨q3, k3, rfl, ho3, hb8⟩
  have HS8 : Hid (Below w2.heap.size w2 w8) := Lib.hid (HS7.out.trans (hb8.mono HS7.out.size))
  have ht3 := own_text ho3 HLl.out
  rw [HSt.out] at ht3
  clear ho3 hb8
  go_wp2_with fail
  clear ht3
  refine (HWk.out _ HS8.out).mono ?_
  rintro e w9 ⟨rfl, hb9⟩
  have HGf : Hid (Below W.heap.size W w9) := Lib.hid (HS.out _ (HS8.out.trans (hb9.mono HS8.out.size)))
  clear hb9
  go_wp2_with fail
  go_ret
  exact ⟨rfl, HGf.out⟩
end Go.Proofs.YtjjahcidncnogaaDoor
