/- Rows that are lent, and whether they stay: contracts; the reference's digest of parts. -/
import Derived.Test.YtjjahcidncnogaaDoorRowsU
import Derived.Test.YtjjahcidncnogaaDoorRef7
import Derived.Test.YtjjahcidncnogaaDoorHeld2
namespace Go.Proofs.YtjjahcidncnogaaDoor
open Go.ChangeShapes Go.WideShapes Go.ChangeAt Go.RowKit Go.Lib

theorem Parts.wide {b b' : Nat} {p : Option Addr} {N : Nat} {P : Nat → Option Addr} {C : Nat → Nat} {L : Nat → List UInt8} {w : World} (h : Parts b p N P C L w) (hb : b ≤ b') : Parts b' p N P C L w :=
  ⟨fun hN => let ⟨pb, off, hp, h1, h2⟩ := h.1 hN; ⟨pb, off, hp, by omega, h2⟩, fun i hi => let ⟨h1, h2, h3⟩ := h.2 i hi; ⟨h1.at hb hb, h2, h3⟩⟩
theorem cat_upto (L : Nat → List UInt8) {i k : Nat} (h : i ≤ k) : (cat L i).length ≤ (cat L k).length := by
  induction k with
  | zero => obtain rfl : i = 0 := by omega
            exact Nat.le_refl _
  | succ k ih =>
    by_cases e : i = k + 1
    · subst e; exact Nat.le_refl _
    · have := ih (by omega); simp only [cat, List.length_append]; omega
theorem cat_one_of (L : Nat → List UInt8) {i N : Nat} (h : i < N) : (L i).length ≤ (cat L N).length := by
  have := cat_upto L (i := i + 1) (k := N) h
  simp only [cat, List.length_append] at this
  omega
theorem keeps_row {w w' : World} {B n : Nat} {v : Value} {xs : List Value} {e : TypeId} (h : w.ownsRow B e 1 v n xs) (hk : ∀ i, i < w.heap.size → w'.heap[i]? = w.heap[i]?) : w'.ownsRow B e 1 v n xs := by
  refine ⟨h.1, h.2.elim .inl fun ⟨g, cap, cur, hv, hg, hh, r⟩ => .inr ⟨g, cap, cur, hv, hg, ?_, r⟩⟩
  exact (hk g (Array.getElem?_eq_some_iff.1 hh).1).trans hh

set_option maxRecDepth 100000 in
set_option maxHeartbeats 4000000 in
theorem joined_any (p : Option Addr) (N cap : Nat) (hN : N ≤ 1048576) (P : Nat → Option Addr) (C : Nat → Nat) (L : Nat → List UInt8) (w : World) (hP : Parts w.heap.size p N P C L w) (hnil : ∀ i, i < N → P i = none → L i = [] ∧ C i = 0) (hfit : (cat L N).length ≤ 140737488351000) :
    Calls Tryd.prog 81 #[.slice p N cap] w fun e w' => ∃ q c, e = .returned (.slice q (cat L N).length c) ∧ w'.ownsRow w.heap.size 5 1 (.slice q (cat L N).length c) (cat L N).length (Go.Lib.byteCells (cat L N)) ∧ Below w.heap.size w w' := by
  have HP := Lib.hid hP
  have HNil := Lib.hid hnil
  have HFit := Lib.hid hfit
  have HX : Hid (∃ (i : Nat) (q : Option Addr) (c m : Nat), Value.slice none 0 0 = .slice q m c ∧ Value.int .i64 0 = .int .i64 (i : Int) ∧ i ≤ N ∧ m = (cat L i).length ∧ Hid (w.ownsRow w.heap.size 5 1 (.slice q m c) m (Go.Lib.byteCells (cat L i))) ∧ Hid (Below w.heap.size w w)) := Lib.hid
    ⟨0, none, 0, 0, rfl, rfl, Nat.zero_le _, rfl, Lib.hid (World.ownsRow_nil _ _ _ _), Lib.hid (Below.refl _ _)⟩
  clear hP hnil hfit
  go_enter Tryd.func81, Tryd.ntmps81
  go_wp2_with fail
  go_loopw [3, 8] (fun s v wr => ∃ (i : Nat) (q : Option Addr) (c m : Nat), s = .slice q m c ∧ v = .int .i64 (i : Int) ∧ i ≤ N ∧ m = (cat L i).length ∧ Hid (wr.ownsRow w.heap.size 5 1 (.slice q m c) m (Go.Lib.byteCells (cat L i))) ∧ Hid (Below w.heap.size w wr)) (fun _ v _ => N - (RowKit.intOf v).toNat)
  case atStart => exact HX.out
  case round =>
    clear HX
    obtain ⟨i, q, c, m, rfl, rfl, hi, hm, ho, hb⟩ := hrel
    by_cases hlt : i < N
    · obtain ⟨pb, off, hp, hpb, hc⟩ := HP.out.1 (by omega)
      subst hp
      have c1 := (hb.out.cell (p := ⟨pb, off + i, none⟩) hpb).trans (hc i hlt)
      obtain ⟨hby, hlc, hlm⟩ := HP.out.2 i hlt
      have HBy : Hid (Bytes wr.heap.size wr.heap.size (P i) (L i) wr) := Lib.hid ((hby.keep hb.out).at hb.out.size hb.out.size)
      have HNi : Hid (P i = none → (L i).length = 0 ∧ C i = 0) := Lib.hid (fun e => by have h := HNil.out i hlt e; rw [h.1]; exact ⟨rfl, h.2⟩)
      have HCt : Hid (cat L (i + 1) = cat L i ++ L i) := Lib.hid rfl
      have HLe := Lib.hid (cat_upto L (i := i + 1) (k := N) hlt)
      obtain ⟨n, hnn⟩ : ∃ n, (L i).length = n := ⟨_, rfl⟩
      have HNN := Lib.hid hnn
      rw [hnn] at c1 HNi
      have hdi : decide ((i : Int) < (N : Int)) = true := decide_eq_true (by omega)
      have hti : (i : Int) < (N : Int) := by omega
      obtain ⟨t, ht⟩ : ∃ t, m + n = t := ⟨_, rfl⟩
      have HT := Lib.hid ht
      have HMM := Lib.hid hm
      have HTl : Hid (t = (cat L (i + 1)).length) := Lib.hid (by rw [HCt.out, List.length_append, hnn, ← hm, ht])
      obtain ⟨Pi, hPi⟩ : ∃ x, P i = x := ⟨_, rfl⟩
      obtain ⟨Ci, hCi⟩ : ∃ x, C i = x := ⟨_, rfl⟩
      rw [hPi] at c1 HBy HNi
      rw [hCi] at c1 HNi
      clear hc hby hlc hlm hpb hnn hPi hCi hm ht
      go_wp2_with (refine wpList_append_piece rfl (.tmp 12) (.tmp 13) rfl w.heap.size _ m (cat L i) rfl ho.out Pi n Ci t (L i) rfl HNN.out HNi.out _ _ HBy.out HT.out (by have := HTl.out; have := HLe.out; have := HFit.out; omega) hb.out.size ?_)
      intro q4 k4 w4 ho4 hg4
      have HO4 : Hid (w4.ownsRow w.heap.size 5 1 (.slice q4 t k4) t (Go.Lib.byteCells (cat L (i + 1)))) := Lib.hid (by rw [HCt.out]; exact ho4)
      have HG4 : Hid (Below w.heap.size w w4) := Lib.hid (hb.out.grown hg4 hb.out.size (fun k hk => (ho.out.lt k hk).1))
      clear ho4 hg4 c1
      go_wp2_with fail
      go_roundw
      case rel => exact ⟨i + 1, q4, k4, t, rfl, by go_num, hlt, HTl.out, HO4, HG4⟩
      case measure => simp [RowKit.intOf]; omega
    · obtain rfl : N = i := by omega
      have hdi : decide ((N : Int) < (N : Int)) = false := decide_eq_false (by omega)
      have HMM := Lib.hid hm
      clear hlt hi hm
      go_wp2_with fail
      go_ret
      exact ⟨q, c, by rw [← HMM.out]; rfl, by rw [← HMM.out]; exact ho.out, hb.out⟩

set_option maxRecDepth 100000 in
set_option maxHeartbeats 4000000 in
theorem ref7Of_any (a : Option Addr) (c : Nat) (l : List UInt8) (p : Option Addr) (N cap : Nat) (hN : N ≤ 1048576) (P : Nat → Option Addr) (C : Nat → Nat) (L : Nat → List UInt8) (w : World) (hB : Bytes w.heap.size w.heap.size a l w) (hm : l.length ≤ 140737488351232)
    (hP : Parts w.heap.size p N P C L w) (hnil : ∀ i, i < N → P i = none → L i = [] ∧ C i = 0) (hfit : (cat L N).length ≤ 140737488351000) :
    Calls Tryd.prog 31 #[.slice a l.length c, .slice p N cap] w fun e w' => e = .returned (dig (hmacL l (cat L N))) ∧ Below w.heap.size w w' := by
  obtain ⟨v1, hv1⟩ : ∃ v, v = w.alloc (.cells (Go.Lib.byteCells zero32).toArray 47) := ⟨_, rfl⟩
  have HV1 := Lib.hid hv1.symm
  have HG1 : Hid (Below w.heap.size w v1) := Lib.hid (by rw [hv1]; exact (Below.refl _ w).alloc (Nat.le_refl _) _)
  have HR1 : Hid (v1.heap[w.heap.size]? = some (.cells (Go.Lib.byteCells zero32).toArray 47 (0, 0))) := Lib.hid (by rw [hv1]; exact heap_last _ _)
  have HJ := Lib.hid (joined_any p N cap hN P C L v1 ((hP.keep HG1.out).wide HG1.out.size) hnil hfit)
  have HB := Lib.hid hB
  have HM := Lib.hid hm
  have HF := Lib.hid hfit
  obtain ⟨R, hR⟩ : ∃ R, hmacL l (cat L N) = R := ⟨_, rfl⟩
  have HR := Lib.hid hR
  have HRl : Hid (R.length = 32) := Lib.hid (by rw [← hR]; exact sumI_length _ _ _)
  have HI := Lib.hid ((by kernel_rfl : (Tryd.prog.info? 47).map (·.size) = some 32).trans (show some 32 = some (Go.Lib.byteCells R).toArray.size by rw [List.size_toArray, bc_len, HRl.out]))
  have H1 := Lib.hid (dig_one R)
  have HZ : Hid ((Go.Lib.byteCells zero32).toArray.size = (Go.Lib.byteCells R).toArray.size) := Lib.hid (by rw [List.size_toArray, List.size_toArray, bc_len, bc_len, HRl.out]; rfl)
  obtain ⟨n, hnn⟩ : ∃ n, l.length = n := ⟨_, rfl⟩
  have HNN := Lib.hid hnn
  rw [hR, hnn]
  unfold dig
  clear hv1 hB hm hP hnil hfit hR hnn
  go_enter Tryd.func31, Tryd.ntmps31
  go_wp2_with fail
  refine calls_at HV1.out ?_
  refine HJ.out.mono ?_
  rintro e w2 ⟨q, k, rfl, ho, hb⟩
  have HG2 : Hid (Below w.heap.size w w2) := Lib.hid (HG1.out.trans (hb.mono HG1.out.size))
  have HR2 : Hid (w2.heap[w.heap.size]? = some (.cells (Go.Lib.byteCells zero32).toArray 47 (0, 0))) := Lib.hid ((hb.block _ (Array.getElem?_eq_some_iff.1 HR1.out).1).trans HR1.out)
  have hS : Calls Tryd.prog 37 #[.slice a l.length c, .slice q (cat L N).length k] w2 fun e w' => e = .returned (dig R) ∧ Below w2.heap.size w2 w' := by
    have hnil2 : q = none → cat L N = [] ∧ k = 0 := fun e => by
      subst e
      rcases ho.2 with ⟨hv, h0⟩ | ⟨g, cap', cur, hv, _⟩
      · simp only [Value.slice.injEq, true_and] at hv
        exact ⟨List.eq_nil_of_length_eq_zero h0, hv.2⟩
      · cases hv
    obtain ⟨q9, c9, he, -, hb9⟩ := owns_bytes ho rfl
    simp only [Value.slice.injEq, true_and] at he
    obtain ⟨rfl, rfl⟩ := he
    have h := ref7Sum_any a c l q k (cat L N) w2 ((HB.out.keep HG2.out).at HG2.out.size HG2.out.size) HM.out hnil2 hb9 (Nat.le_trans HF.out (by decide))
    rw [HR.out] at h
    exact h
  rw [HNN.out] at hS
  unfold dig at hS
  have HS := Lib.hid hS
  obtain ⟨z, hz⟩ : ∃ z, (cat L N).length = z := ⟨_, rfl⟩
  rw [hz] at HS ⊢
  clear ho hb hS hz
  go_wp2_with fail
  refine HS.out.mono ?_
  rintro e w3 ⟨rfl, hb3⟩
  have HG3 : Hid (Below w.heap.size w w3) := Lib.hid (HG2.out.trans (hb3.mono HG2.out.size))
  have HR3 : Hid (w3.heap[w.heap.size]? = some (.cells (Go.Lib.byteCells zero32).toArray 47 (0, 0))) := Lib.hid ((hb3.block _ (Array.getElem?_eq_some_iff.1 HR2.out).1).trans HR2.out)
  clear hb3
  go_wp2_with (refine wpList_store_row rfl 47 (.tmp 4) (.tmp 8) rfl w.heap.size (Go.Lib.byteCells R).toArray rfl rfl 47 _ HR3.out HI.out HZ.out H1.out ?_)
  exact bodyPost_ret (results_cell_row rfl _ _ w.heap.size 47 (Go.Lib.byteCells R).toArray (0, 0) _ rfl (setRow_heap w3 _ _ _ _ _ HR3.out) Tryd.underlying47 rfl HI.out) rfl ⟨rfl, HG3.out.trans ⟨rfl, rfl, rfl, by simp, fun k hk => setRow_other w3 _ k _ (by omega)⟩⟩

set_option maxRecDepth 100000 in
set_option maxHeartbeats 8000000 in
theorem lentAll_any (p : Option Addr) (N cap : Nat) (hN : N ≤ 1048576) (P : Nat → Option Addr) (C : Nat → Nat) (L : Nat → List UInt8) (w : World) (hP : Parts w.heap.size p N P C L w) (hnil : ∀ i, i < N → P i = none → L i = [] ∧ C i = 0) :
    Calls Tryd.prog 29 #[.slice p N cap] w fun e w' => ∃ q c xs, e = .returned (.slice q N c) ∧ xs.length = N ∧ w'.ownsRow w.heap.size 28 1 (.slice q N c) N xs ∧ Spares w.heap.size (List.replicate 70 165) L xs w' ∧ Below w.heap.size w w' := by
  have HP := Lib.hid hP
  have HNil := Lib.hid hnil
  have HX : Hid (∃ (i : Nat) (q : Option Addr) (c : Nat) (xs : List Value), Value.slice none 0 0 = .slice q i c ∧ Value.int .i64 0 = .int .i64 (i : Int) ∧ i ≤ N ∧ xs.length = i ∧ Hid (w.ownsRow w.heap.size 28 1 (.slice q i c) i xs) ∧ Hid (Spares w.heap.size (List.replicate 70 165) L xs w) ∧ Hid (Below w.heap.size w w)) := Lib.hid
    ⟨0, none, 0, [], rfl, rfl, Nat.zero_le _, rfl, Lib.hid (World.ownsRow_nil _ _ _ _), Lib.hid (fun j hj => absurd hj (by simp)), Lib.hid (Below.refl _ _)⟩
  clear hP hnil
  go_enter Tryd.func29, Tryd.ntmps29
  go_wp2_with fail
  go_loopw [3, 8] (fun s v wr => ∃ (i : Nat) (q : Option Addr) (c : Nat) (xs : List Value), s = .slice q i c ∧ v = .int .i64 (i : Int) ∧ i ≤ N ∧ xs.length = i ∧ Hid (wr.ownsRow w.heap.size 28 1 (.slice q i c) i xs) ∧ Hid (Spares w.heap.size (List.replicate 70 165) L xs wr) ∧ Hid (Below w.heap.size w wr)) (fun _ v _ => N - (RowKit.intOf v).toNat)
  case atStart => exact HX.out
  case round =>
    clear HX
    obtain ⟨i, q, c, xs, rfl, rfl, hi, hxs, ho, hsp, hb⟩ := hrel
    by_cases hlt : i < N
    · obtain ⟨pb, off, hp, hpb, hc⟩ := HP.out.1 (by omega)
      subst hp
      have c1 := (hb.out.cell (p := ⟨pb, off + i, none⟩) hpb).trans (hc i hlt)
      obtain ⟨hby, hlc, hlm⟩ := HP.out.2 i hlt
      have HCl := Lib.hid (lent_any (P i) (C i) (L i) wr (HNil.out i hlt) ((hby.keep hb.out).at hb.out.size hb.out.size) hlm)
      obtain ⟨n, hnn⟩ : ∃ n, (L i).length = n := ⟨_, rfl⟩
      have HNN := Lib.hid hnn
      rw [hnn] at c1 HCl
      have hdi : decide ((i : Int) < (N : Int)) = true := decide_eq_true (by omega)
      have hti : (i : Int) < (N : Int) := by omega
      obtain ⟨Pi, hPi⟩ : ∃ x, P i = x := ⟨_, rfl⟩
      obtain ⟨Ci, hCi⟩ : ∃ x, C i = x := ⟨_, rfl⟩
      rw [hPi, hCi] at c1 HCl
      have HXs := Lib.hid hxs
      clear hc hby hlc hlm hpb hnn hPi hCi hxs
      go_wp2_with fail
      refine HCl.out.mono ?_
      rintro e w2 ⟨g, k2, rfl, hga, hlent, hb2⟩
      have HSp : Hid (Spare w2 g k2 (L i) (List.replicate 70 165)) := Lib.hid (.of_lent hlent)
      have HGa : Hid (w.heap.size ≤ g) := Lib.hid (Nat.le_trans hb.out.size hga)
      obtain ⟨w3, hw3⟩ : ∃ v, v = w2.alloc (.cells #[.slice (some ⟨g, 0, none⟩) n k2] 28) := ⟨_, rfl⟩
      have HV3 := Lib.hid hw3.symm
      have hb23 : Below w2.heap.size w2 w3 := by rw [hw3]; exact (Below.refl _ _).alloc (Nat.le_refl _) _
      have HG3 : Hid (Below wr.heap.size wr w3) := Lib.hid (hb2.trans (hb23.mono hb2.size))
      have HSp3 : Hid (Spare w3 g k2 (L i) (List.replicate 70 165)) := Lib.hid (HSp.out.below hb23)
      have HSs3 : Hid (Spares w.heap.size (List.replicate 70 165) L xs w3) := Lib.hid (hsp.out.below HG3.out)
      have HO3 : Hid (w3.ownsRow w.heap.size 28 1 (.slice q i c) i xs) := Lib.hid (keeps_row ho.out (fun j hj => HG3.out.block j hj))
      have HC3 : Hid (w3.cell? ⟨w2.heap.size, 0, none⟩ = some (.slice (some ⟨g, 0, none⟩) n k2)) := Lib.hid (by rw [hw3, cell_of_heap (heap_last _ _)]; rfl)
      have HGw : Hid (Below w.heap.size w w3) := Lib.hid (hb.out.trans (HG3.out.mono hb.out.size))
      clear hga hlent hb2 hw3 hb23 ho hsp hb c1 HCl
      go_wp2_with (first
        | (refine wpList_append_row1 rfl (.tmp 12) (.tmp 15) rfl w.heap.size _ i xs rfl HO3.out w2.heap.size 1 (.slice (some ⟨g, 0, none⟩) n k2) rfl HC3.out rfl (i + 1) rfl (by omega) HGw.out.size ?_)
        | (refine wpList_world HV3.out ?_))
      intro q4 c4 w4 ho4 hg4
      have HO4 := Lib.hid ho4
      have HSs4 : Hid (Spares w.heap.size (List.replicate 70 165) L (xs ++ [.slice (some ⟨g, 0, none⟩) n k2]) w4) := Lib.hid (by
        have h := HSs3.out.snoc HGa.out (k := k2) (by rw [HXs.out]; exact HSp3.out)
        rw [HXs.out, HNN.out] at h
        exact h.grown HO3.out hg4)
      have HG4 : Hid (Below w.heap.size w w4) := Lib.hid (HGw.out.grown hg4 HGw.out.size (fun k hk => (HO3.out.lt k hk).1))
      have HXl : Hid ((xs ++ [Value.slice (some ⟨g, 0, none⟩) n k2]).length = i + 1) := Lib.hid (by rw [List.length_append, List.length_singleton, HXs.out])
      clear ho4 hg4
      go_wp2_with fail
      go_roundw
      case rel => exact ⟨i + 1, q4, c4, _, rfl, by go_num, hlt, HXl.out, HO4, HSs4, HG4⟩
      case measure => simp [RowKit.intOf]; omega
    · obtain rfl : N = i := by omega
      have hdi : decide ((N : Int) < (N : Int)) = false := decide_eq_false (by omega)
      have HXs := Lib.hid hxs
      clear hlt hi hxs
      go_wp2_with fail
      go_ret
      exact ⟨q, c, xs, rfl, HXs.out, ho.out, hsp.out, hb.out⟩
end Go.Proofs.YtjjahcidncnogaaDoor
