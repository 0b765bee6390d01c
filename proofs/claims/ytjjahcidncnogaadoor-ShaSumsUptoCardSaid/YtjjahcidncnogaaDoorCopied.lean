/- What is copied with room behind: the contract. -/
import Derived.Test.YtjjahcidncnogaaDoorRowsU
namespace Go.Proofs.YtjjahcidncnogaaDoor
open Go.ChangeShapes Go.WideShapes Go.ChangeAt Go.RowKit Go.Lib

set_option maxRecDepth 100000 in
set_option maxHeartbeats 8000000 in
theorem copied_any (p : Option Addr) (N cap : Nat) (hN : N ≤ 1048576) (P : Nat → Option Addr) (C : Nat → Nat) (L : Nat → List UInt8) (w : World) (hP : Parts w.heap.size p N P C L w) (hnil : ∀ i, i < N → P i = none → L i = [] ∧ C i = 0) (hL : ∀ i, i < N → (L i).length ≤ 1048576) :
    Calls Tryd.prog 23 #[.slice p N cap] w fun e w' => ∃ q c xs, e = .returned (.slice q N c) ∧ xs.length = N ∧ w'.ownsRow w.heap.size 28 1 (.slice q N c) N xs ∧ Spares w.heap.size [1, 2, 3] L xs w' ∧ Below w.heap.size w w' := by
  have HP := Lib.hid hP
  have HNil := Lib.hid hnil
  have HLs := Lib.hid hL
  have HX : Hid (∃ (i : Nat) (q : Option Addr) (c : Nat) (xs : List Value), Value.slice none 0 0 = .slice q i c ∧ Value.int .i64 0 = .int .i64 (i : Int) ∧ i ≤ N ∧ xs.length = i ∧ Hid (w.ownsRow w.heap.size 28 1 (.slice q i c) i xs) ∧ Hid (Spares w.heap.size [1, 2, 3] L xs w) ∧ Hid (Below w.heap.size w w)) := Lib.hid
    ⟨0, none, 0, [], rfl, rfl, Nat.zero_le _, rfl, Lib.hid (World.ownsRow_nil _ _ _ _), Lib.hid (fun j hj => absurd hj (by simp)), Lib.hid (Below.refl _ _)⟩
  clear hP hnil hL
  go_enter Tryd.func23, Tryd.ntmps23
  go_wp2_with fail
  obtain ⟨wz, hwz⟩ : ∃ wz : World, wz = w := ⟨_, rfl⟩
  have HWZ := Lib.hid hwz
  go_loopw [3, 8] (fun s v wr => ∃ (i : Nat) (q : Option Addr) (c : Nat) (xs : List Value), s = .slice q i c ∧ v = .int .i64 (i : Int) ∧ i ≤ N ∧ xs.length = i ∧ Hid (wr.ownsRow w.heap.size 28 1 (.slice q i c) i xs) ∧ Hid (Spares w.heap.size [1, 2, 3] L xs wr) ∧ Hid (Below w.heap.size w wr)) (fun _ v _ => N - (RowKit.intOf v).toNat)
  case atStart => exact HX.out
  case round =>
    clear HX
    obtain ⟨i, q, c, xs, rfl, rfl, hi, hxs, ho, hsp, hb⟩ := hrel
    by_cases hlt : i < N
    · obtain ⟨pb, off, hp, hpb, hc⟩ := HP.out.1 (by omega)
      subst hp
      have c1 := (hb.out.cell (p := ⟨pb, off + i, none⟩) hpb).trans (hc i hlt)
      obtain ⟨hby, hlc, hlm⟩ := HP.out.2 i hlt
      have HCl := Lib.hid (sclone_any (P i) (C i) (L i) wr (HNil.out i hlt) ((hby.keep hb.out).at hb.out.size hb.out.size) hlm)
      have HLi := Lib.hid (HLs.out i hlt)
      obtain ⟨n, hnn⟩ : ∃ n, (L i).length = n := ⟨_, rfl⟩
      have HNN := Lib.hid hnn
      rw [hnn] at c1 HCl HLi
      have hdi : decide ((i : Int) < (N : Int)) = true := decide_eq_true (by omega)
      have hti : (i : Int) < (N : Int) := by omega
      obtain ⟨Pi, hPi⟩ : ∃ x, P i = x := ⟨_, rfl⟩
      obtain ⟨Ci, hCi⟩ : ∃ x, C i = x := ⟨_, rfl⟩
      rw [hPi, hCi] at c1 HCl
      have HXs := Lib.hid hxs
      clear hc hby hlc hlm hpb hnn hPi hCi hxs hwz
      go_wp2_with fail
      refine HCl.out.mono ?_
      rintro e w1 ⟨q1, k1, rfl, ho1, hb1⟩
      have HB1 : Hid (Below wr.heap.size wr w1) := Lib.hid hb1
      have HO1 : Hid ((w1.alloc (.cells (Go.Lib.byteCells [1, 2, 3]).toArray 5)).ownsRow wr.heap.size 5 1 (.slice q1 n k1) n (Go.Lib.byteCells (L i))) := Lib.hid (ho1.alloc _)
      have HL1 := Lib.hid (lit_bytes w1 [1, 2, 3])
      have HB2 : Hid (Below wr.heap.size wr (w1.alloc (.cells (Go.Lib.byteCells [1, 2, 3]).toArray 5))) := Lib.hid (hb1.alloc hb1.size _)
      obtain ⟨m, hm⟩ : ∃ m, n + 3 = m := ⟨_, rfl⟩
      have HM := Lib.hid hm
      clear c1 ho1 hb1 HCl hm
      go_wp2_with (refine wpList_append_piece rfl (.tmp 14) (.tmp 15) rfl wr.heap.size _ n (L i) rfl HO1.out (some ⟨w1.heap.size, 0, none⟩) 3 3 m [1, 2, 3] rfl rfl (fun h => by cases h) _ _ HL1.out HM.out (by have := HLi.out; have := HM.out; omega) HB2.out.size ?_)
      intro q2 k2 w2 ho2 hg2
      have hb2 : Below wr.heap.size wr w2 := HB2.out.grown hg2 HB2.out.size (fun k hk => (HO1.out.lt k hk).1)
      obtain ⟨g, cur, rfl, hga, hgb, hgc, hgd, hge⟩ := owns_some ho2 (by rw [List.length_append, HNN.out]; exact HM.out) (by have := HM.out; omega)
      have HSp : Hid (Spare w2 g k2 (L i) [1, 2, 3]) := Lib.hid ⟨by rw [HNN.out]; have := HM.out; show n + 3 ≤ k2; omega, ⟨cur, hgd⟩, hge⟩
      have hcut := fun w => slice_cut g m k2 n (by have := HM.out; omega) (by have := HM.out; omega) w
      have HG2 := Lib.hid hb2
      have HGa : Hid (w.heap.size ≤ g) := Lib.hid (Nat.le_trans hb.out.size hga)
      obtain ⟨w3, hw3⟩ : ∃ v, v = w2.alloc (.cells #[.slice (some ⟨g, 0, none⟩) n k2] 28) := ⟨_, rfl⟩
      have HV3 := Lib.hid hw3.symm
      have hb23 : Below w2.heap.size w2 w3 := by rw [hw3]; exact (Below.refl _ _).alloc (Nat.le_refl _) _
      have HG3 : Hid (Below wr.heap.size wr w3) := Lib.hid (hb2.trans (hb23.mono hb2.size))
      have HSp3 : Hid (Spare w3 g k2 (L i) [1, 2, 3]) := Lib.hid (HSp.out.below hb23)
      have HSs3 : Hid (Spares w.heap.size [1, 2, 3] L xs w3) := Lib.hid (hsp.out.below HG3.out)
      have HO3 : Hid (w3.ownsRow w.heap.size 28 1 (.slice q i c) i xs) := Lib.hid (by
        have h := ho.out
        refine ⟨h.1, h.2.elim .inl fun ⟨g', cap', cur', hv, hg', hh, r⟩ => .inr ⟨g', cap', cur', hv, hg', ?_, r⟩⟩
        exact (HG3.out.block g' (Array.getElem?_eq_some_iff.1 hh).1).trans hh)
      have HC3 : Hid (w3.cell? ⟨w2.heap.size, 0, none⟩ = some (.slice (some ⟨g, 0, none⟩) n k2)) := Lib.hid (by rw [hw3, cell_of_heap (heap_last _ _)]; rfl)
      have HGw : Hid (Below w.heap.size w w3) := Lib.hid (hb.out.trans (HG3.out.mono hb.out.size))
      clear ho2 hg2 hb2 hga hgb hgc hgd hge hw3 hb23 ho hsp hb
      go_wp2_with (first
        | (refine wpList_append_row1 rfl (.tmp 12) (.tmp 20) rfl w.heap.size _ i xs rfl HO3.out w2.heap.size 1 (.slice (some ⟨g, 0, none⟩) n k2) rfl HC3.out rfl (i + 1) rfl (by omega) HGw.out.size ?_)
        | (refine wpList_world HV3.out ?_))
      intro q4 c4 w4 ho4 hg4
      have HO4 := Lib.hid ho4
      have HSs4 : Hid (Spares w.heap.size [1, 2, 3] L (xs ++ [.slice (some ⟨g, 0, none⟩) n k2]) w4) := Lib.hid (by
        have h := HSs3.out.snoc HGa.out (k := k2) (by rw [HXs.out]; exact HSp3.out)
        rw [HXs.out, HNN.out] at h
        exact h.grown HO3.out hg4)
      have HG4 : Hid (Below w.heap.size w w4) := Lib.hid (HGw.out.grown hg4 HGw.out.size (fun k hk => (HO3.out.lt k hk).1))
      have HXl : Hid ((xs ++ [Value.slice (some ⟨g, 0, none⟩) n k2]).length = i + 1) := Lib.hid (by rw [List.length_append, List.length_singleton, HXs.out])
      clear ho4 hg4 hcut
      go_wp2_with fail
      go_roundw
      case rel => exact ⟨i + 1, q4, c4, _, rfl, by go_num, hlt, HXl.out, HO4, HSs4, HG4⟩
      case measure => simp [RowKit.intOf]; omega
    · obtain rfl : N = i := by omega
      have hdi : decide ((N : Int) < (N : Int)) = false := decide_eq_false (by omega)
      have HXs := Lib.hid hxs
      clear hlt hi hxs hwz
      go_wp2_with fail
      go_ret
      exact ⟨q, c, xs, rfl, HXs.out, ho.out, hsp.out, hb.out⟩
end Go.Proofs.YtjjahcidncnogaaDoor
