/- hmac.Expand: its contract. -/
import Derived.Test.YtjjahcidncnogaaDoorThree
import Derived.Test.YtjjahcidncnogaaDoorShaFreshA
namespace Go.Proofs.YtjjahcidncnogaaDoor
open Go.ChangeShapes Go.WideShapes Go.ChangeAt Go.RowKit Go.Lib

/-- How memory stands while a key is expanded: the last piece lies in a block of its own. -/
structure EW (w : World) (key info : List UInt8) (k : Nat) (q : Option Addr) (c : Nat) (pl : Option Addr) (nl cl : Nat) (v : World) : Prop where
  o : v.ownsRow w.heap.size 5 1 (.slice q (32 * k) c) (32 * k) (Go.Lib.byteCells (outL key info k))
  nl : nl = (lastL key info k).length ∧ nl ≤ cl
  l : (k = 0 ∧ pl = none) ∨ ∃ g, pl = some ⟨g, 0, none⟩ ∧ v.heap[g]? = some (.cells (Go.Lib.byteCells (lastL key info k)).toArray 48 (0, 0))
  g : Below w.heap.size w v
theorem EW.last {w v : World} {key info : List UInt8} {k : Nat} {q : Option Addr} {c : Nat} {pl : Option Addr} {nl cl : Nat} (h : EW w key info k q c pl nl cl v) : Bytes v.heap.size v.heap.size pl (lastL key info k) v := by
  rcases h.l with ⟨rfl, rfl⟩ | ⟨g, rfl, hg⟩
  · exact fun h => absurd rfl h
  · have hl := (Array.getElem?_eq_some_iff.1 hg).1
    exact row_bytes hg hl (by omega)

set_option maxRecDepth 100000 in
set_option maxHeartbeats 8000000 in
theorem expand_any (a : Option Addr) (c : Nat) (l : List UInt8) (a2 : Option Addr) (c2 : Nat) (l2 : List UInt8) (n : Nat) (hn : n ≤ 8160) (w : World) (hT : Tab w) (hB : Bytes w.heap.size w.heap.size a l w) (hc : l.length ≤ c) (hm : l.length ≤ 140737488351232)
    (hB2 : Bytes w.heap.size w.heap.size a2 l2 w) (hc2 : l2.length ≤ c2) (hm2 : l2.length ≤ 140737488351232) :
    Calls Tryd.prog 47 #[.slice a l.length c, .slice a2 l2.length c2, .int .i64 (n : Int)] w fun e w' => ∃ q k, e = .returned (.tuple #[.slice q n k, .nilIface]) ∧ w'.ownsRow w.heap.size 5 1 (.slice q n k) n (Go.Lib.byteCells (expL l l2 n)) ∧ Below w.heap.size w w' := by
  have HT := Lib.hid hT
  have HB := Lib.hid hB
  have HC := Lib.hid hc
  have HM := Lib.hid hm
  have HB2 := Lib.hid hB2
  have HC2 := Lib.hid hc2
  have HM2 := Lib.hid hm2
  obtain ⟨m, hmm⟩ : ∃ m, l.length = m := ⟨_, rfl⟩
  obtain ⟨m2, hmm2⟩ : ∃ m, l2.length = m := ⟨_, rfl⟩
  have HMm := Lib.hid hmm
  have HMm2 := Lib.hid hmm2
  rw [hmm, hmm2]
  have hd0 : decide ((n : Int) < 0) = false := decide_eq_false (by omega)
  have hd1 : decide ((8160 : Int) < (n : Int)) = false := decide_eq_false (by omega)
  have hnn : ¬ (n : Int) < 0 := by omega
  have hnb : ¬ (8160 : Int) < (n : Int) := by omega
  have HX : Hid (∃ (k : Nat) (q : Option Addr) (c : Nat) (pl : Option Addr) (nl cl : Nat), Value.slice none 0 0 = .slice q (32 * k) c ∧ Value.slice none 0 0 = .slice pl nl cl ∧ Value.int .u8 1 = .int .u8 (((k + 1) % 256 : Nat) : Int) ∧ 32 * k < n + 32 ∧ Hid (EW w l l2 k q c pl nl cl w)) := Lib.hid
    ⟨0, none, 0, none, 0, 0, rfl, rfl, rfl, by omega, Lib.hid ⟨World.ownsRow_nil _ _ _ _, ⟨rfl, Nat.le_refl _⟩, .inl ⟨rfl, rfl⟩, Below.refl _ _⟩⟩
  clear hT hB hc hm hB2 hc2 hm2 hmm hmm2
  go_enter Tryd.func47, Tryd.ntmps47
  go_wp2_with fail
  clear hd0 hd1 hnn hnb
  go_loopw [8, 9, 10] (fun s t v wr => ∃ (k : Nat) (q : Option Addr) (c : Nat) (pl : Option Addr) (nl cl : Nat), s = .slice q (32 * k) c ∧ t = .slice pl nl cl ∧ v = .int .u8 (((k + 1) % 256 : Nat) : Int) ∧ 32 * k < n + 32 ∧ Hid (EW w l l2 k q c pl nl cl wr)) (fun s _ _ _ => n - lenOf s)
  case atStart => exact HX.out
  case round =>
    clear HX
    obtain ⟨k, q, cq, pl, nl, cl, rfl, rfl, rfl, hk, hew⟩ := hrel
    by_cases hlt : 32 * k < n
    · obtain ⟨z, hz⟩ : ∃ z, 32 * k = z := ⟨_, rfl⟩
      have HZ := Lib.hid hz
      have hdi : decide ((z : Int) < (n : Int)) = true := decide_eq_true (by omega)
      have hti : (z : Int) < (n : Int) := by omega
      obtain ⟨x, hx⟩ : ∃ x, UInt8.ofNat (k + 1) = x := ⟨_, rfl⟩
      have hxv : (((k + 1) % 256 : Nat) : Int) = (x.toNat : Int) := by rw [← hx, UInt8.toNat_ofNat']
      have hxn : IntKind.u8.wrap ((x.toNat : Int) + 1) = (((k + 1 + 1) % 256 : Nat) : Int) := by rw [IntKind.wrap_u8, ← hx, UInt8.toNat_ofNat']; omega
      have HLs : Hid (lastL l l2 (k + 1) = hmacL l (lastL l l2 k ++ l2 ++ [x])) := Lib.hid (by rw [lastL, hx])
      rw [hxv]
      obtain ⟨v6, hv6⟩ : ∃ v, v = wr.alloc (.cells (Go.Lib.byteCells [x]).toArray 5) := ⟨_, rfl⟩
      obtain ⟨g6, hg6⟩ : ∃ g, wr.heap.size = g := ⟨_, rfl⟩
      have HGg6 := Lib.hid hg6
      have hs6 : v6.heap.size = g6 + 1 := by rw [hv6, ← hg6]; simp
      obtain ⟨v7, hv7⟩ : ∃ v, v = v6.alloc (.cells #[.slice pl nl cl, .slice a2 m2 c2, .slice (some ⟨g6, 0, none⟩) 1 1] 28) := ⟨_, rfl⟩
      have HV7 : Hid ((wr.alloc (.cells (Go.Lib.byteCells [x]).toArray 5)).alloc (.cells #[.slice pl nl cl, .slice a2 m2 c2, .slice (some ⟨g6, 0, none⟩) 1 1] 28) = v7) := Lib.hid (by rw [hv7, hv6])
      have hb6 : Below wr.heap.size wr v6 := by rw [hv6]; exact (Below.refl _ _).alloc (Nat.le_refl _) _
      have hb7 : Below wr.heap.size wr v7 := by rw [hv7]; exact hb6.alloc hb6.size _
      have HG7 : Hid (Below wr.heap.size wr v7) := Lib.hid hb7
      have hgw : Below w.heap.size w v7 := hew.out.g.trans (hb7.mono hew.out.g.size)
      have hs7 : v7.heap.size = g6 + 1 + 1 := by rw [hv7, World.size_alloc, hs6]
      have h6 : v7.heap[g6]? = some (.cells (Go.Lib.byteCells [x]).toArray 5 (0, 0)) := by
        rw [hv7, (MapKept.heap_alloc _ _).2 _ (by omega), hv6, ← hg6]; exact heap_last _ _
      have h7 : v7.heap[g6 + 1]? = some (.cells #[.slice pl nl cl, .slice a2 m2 c2, .slice (some ⟨g6, 0, none⟩) 1 1] 28 (0, 0)) := by
        rw [hv7, ← hs6]; exact heap_last _ _
      have hby1 : Bytes v7.heap.size v7.heap.size pl (lastL l l2 k) v7 := ((hew.out.last).keep hb7).at hb7.size hb7.size
      have hSum := hmacSum_any a c l (some ⟨g6 + 1, 0, none⟩) 3 3 (by decide) (threeF pl a2 (some ⟨g6, 0, none⟩)) (threeF cl c2 1) (threeF (lastL l l2 k) l2 [x]) v7 (HT.out.below hgw) ((HB.out.keep hgw).at hgw.size hgw.size) HC.out HM.out
        (parts_threeF (by rw [cell_of_heap h7, ← hew.out.nl.1]; rfl) (by rw [cell_of_heap h7, HMm2.out]; rfl) (by rw [cell_of_heap h7]; rfl) (by omega) hby1 ((HB2.out.keep hgw).at hgw.size hgw.size) (row_bytes h6 (by omega) (by omega)) (by rw [← hew.out.nl.1]; exact hew.out.nl.2) HC2.out (Nat.le_refl 1) (by have := lastL_le l l2 k; omega) HM2.out (by simp))
        (by rw [cat_threeF, List.length_append, List.length_append]; have h1 := lastL_le l l2 k; have h2 := HM2.out; simp only [List.length_singleton]; omega)
      rw [cat_threeF, ← HLs.out, HMm.out] at hSum
      obtain ⟨D, hD⟩ : ∃ D, lastL l l2 (k + 1) = D := ⟨_, rfl⟩
      have HDl : Hid (D.length = 32) := Lib.hid (by rw [← hD]; exact lastL_length _ _ _)
      have HDD := Lib.hid hD
      rw [hD] at hSum
      unfold dig at hSum
      have HSum := Lib.hid hSum
      have HI := Lib.hid (dig_size D HDl.out)
      have HZz : Hid ((Go.Lib.byteCells zero32).toArray.size = (Go.Lib.byteCells D).toArray.size) := Lib.hid (by rw [List.size_toArray, List.size_toArray, bc_len, bc_len, HDl.out]; rfl)
      have H1 := Lib.hid (dig_one D)
      have HO7 : Hid (v7.ownsRow w.heap.size 5 1 (.slice q z cq) z (Go.Lib.byteCells (outL l l2 k))) := Lib.hid (by
        have h := hew.out.o
        rw [hz] at h
        exact owns_keeps h (fun j _ hj => HG7.out.block j hj))
      have HGW := Lib.hid hgw
      have HKk := Lib.hid hk
      rw [hz]
      clear hew hx hxv hv6 hs6 hv7 hb6 hb7 hgw hs7 h6 h7 hby1 hSum hD hk
      go_wp2_with fail
      refine calls_at HV7.out ?_
      refine HSum.out.mono ?_
      rintro e w8 ⟨rfl, hb8⟩
      obtain ⟨b9, hb9⟩ : ∃ b, w8.heap.size = b := ⟨_, rfl⟩
      have HB9 := Lib.hid hb9
      obtain ⟨v9, hv9⟩ : ∃ v, v = w8.alloc (.cells (Go.Lib.byteCells D).toArray 48) := ⟨_, rfl⟩
      have HV9 := Lib.hid ((World.setRow_alloc_new w8 (Go.Lib.byteCells zero32).toArray (Go.Lib.byteCells D).toArray 48).trans hv9.symm)
      have hb79 : Below v7.heap.size v7 v9 := by rw [hv9]; exact hb8.alloc hb8.size _
      have HG9 : Hid (Below w.heap.size w v9) := Lib.hid (HGW.out.trans (hb79.mono HGW.out.size))
      have HR9 : Hid (v9.heap[b9]? = some (.cells (Go.Lib.byteCells D).toArray 48 (0, 0))) := Lib.hid (by rw [hv9, ← hb9]; exact heap_last _ _)
      have HO9 : Hid (v9.ownsRow w.heap.size 5 1 (.slice q z cq) z (Go.Lib.byteCells (outL l l2 k))) := Lib.hid (owns_keeps HO7.out (fun j _ hj => hb79.block j hj))
      have hl9 := (Array.getElem?_eq_some_iff.1 HR9.out).1
      have HBy9 : Hid (Bytes v9.heap.size v9.heap.size (some ⟨b9, 0, none⟩) D v9) := Lib.hid (row_bytes HR9.out hl9 (by omega))
      obtain ⟨z2, hz2⟩ : ∃ z2, z + 32 = z2 := ⟨_, rfl⟩
      have HZ2 := Lib.hid hz2
      clear hv9 hb8 hb79 hl9 hb9 hz2
      go_wp2_with (first
        | (refine wpList_store_row rfl 48 (.tmp 11) (.tmp 32) rfl w8.heap.size (Go.Lib.byteCells D).toArray rfl rfl 48 (Go.Lib.byteCells zero32).toArray (heap_last _ _) HI.out HZz.out H1.out ?_; refine wpList_world HV9.out ?_; rw [HB9.out])
        | (refine wpList_append_piece rfl (.tmp 34) (.tmp 35) rfl w.heap.size _ z (outL l l2 k) rfl HO9.out (some ⟨b9, 0, none⟩) 32 32 z2 D rfl HDl.out (fun h => by cases h) _ _ HBy9.out HZ2.out (by have := HZ2.out; have := HZ.out; have := HKk.out; omega) HG9.out.size ?_))
      intro qa ka wa hoa hga
      have HEW : Hid (EW w l l2 (k + 1) qa ka (some ⟨b9, 0, none⟩) 32 32 wa) := Lib.hid ⟨by
          rw [show 32 * (k + 1) = z2 by have := HZ2.out; have := HZ.out; omega, outL, HDD.out]; exact hoa, ⟨by rw [HDD.out, HDl.out], Nat.le_refl _⟩,
        .inr ⟨b9, rfl, by
          rw [HDD.out]
          refine (hga.block b9 (Array.getElem?_eq_some_iff.1 HR9.out).1 ?_).trans HR9.out
          intro e
          obtain ⟨cur, hcur⟩ := owns_kind HO9.out e.symm
          rw [HR9.out] at hcur
          simp only [Option.some.injEq, Obj.cells.injEq] at hcur
          exact absurd hcur.2.1 (by decide)⟩, HG9.out.grown hga HG9.out.size (fun k hk => (HO9.out.lt k hk).1)⟩
      clear hoa hga
      go_wp2_with fail
      go_roundw
      case rel => exact ⟨k + 1, qa, ka, some ⟨b9, 0, none⟩, 32, 32, by rw [show 32 * (k + 1) = z2 by have := HZ2.out; have := HZ.out; omega], rfl, rfl, by omega, HEW⟩
      case measure => simp [lenOf]; have := HZ2.out; omega
    · have hke : k = (n + 31) / 32 := by omega
      obtain ⟨z, hz⟩ : ∃ z, 32 * k = z := ⟨_, rfl⟩
      have hdi : decide ((z : Int) < (n : Int)) = false := decide_eq_false (by omega)
      have hti : ¬ (z : Int) < (n : Int) := by omega
      have HO := Lib.hid hew.out.o
      have HG := Lib.hid hew.out.g
      have hnil : q = none → n = 0 ∧ cq = 0 := fun e => by
        subst e
        rcases HO.out.2 with ⟨hv, h0⟩ | ⟨g, cap, cur, hv, _⟩
        · simp only [Value.slice.injEq, true_and] at hv
          exact ⟨by omega, hv.2⟩
        · cases hv
      have hcut : ∀ u, (Instr.sliceAt 28 (.slice q z cq) none (some (.int .i64 (n : Int))) none).run Tryd.prog u = .ok (.slice q n cq) u := fun u => by
        have h := HO.out
        rw [hz] at h
        rcases h.2 with ⟨hv, h0⟩ | ⟨g, cap, cur, hv, _, _, hzc, _⟩
        · simp only [Value.slice.injEq] at hv
          obtain ⟨rfl, rfl, rfl⟩ := hv
          obtain ⟨rfl, -⟩ := hnil rfl
          exact slice_none0 u
        · simp only [Value.slice.injEq] at hv
          obtain ⟨rfl, -, rfl⟩ := hv
          rcases Nat.eq_zero_or_pos cq with h1 | h1
          · obtain rfl : n = 0 := by omega
            obtain rfl : z = 0 := by omega
            subst h1
            rw [run_sliceAt_slice u 28 _ _ _ _ sliceElem, run_slice_h u 28 (some ⟨g, 0, none⟩) 0 0 sliceElem .i64 ((0 : Nat) : Int) (by omega) (by omega), sliceSize]
            simp [Result.andThen, sliced]
          · exact slice_cut g z cq n (by omega) h1 u
      have HS : Hid (wr.ownsRow w.heap.size 5 1 (.slice q n cq) n (Go.Lib.byteCells (expL l l2 n))) := Lib.hid (by
        unfold expL
        rw [← hke]
        exact owns_short HO.out (by omega) hnil (outL_length _ _ _))
      rw [hz]
      clear hew hlt hk hke hz hnil
      go_wp2_with fail
      go_returns
      exact ⟨q, cq, rfl, HS.out, HG.out⟩
end Go.Proofs.YtjjahcidncnogaaDoor
