/- The reference's Expand: its contract. -/
import Derived.Test.YtjjahcidncnogaaDoorRef7
import Derived.Test.YtjjahcidncnogaaDoorThree
namespace Go.Proofs.YtjjahcidncnogaaDoor
open Go.ChangeShapes Go.WideShapes Go.ChangeAt Go.RowKit Go.Lib

/-- How memory stands while the reference expands a key. -/
structure XW (w : World) (key info : List UInt8) (k : Nat) (q : Option Addr) (c : Nat) (pl : Option Addr) (nl cl : Nat) (v : World) : Prop where
  o : v.ownsRow w.heap.size 5 1 (.slice q (32 * k) c) (32 * k) (Go.Lib.byteCells (outL key info k))
  len : (lastL key info k).length = nl
  nil : pl = none → nl = 0 ∧ cl = 0
  l : Bytes v.heap.size v.heap.size pl (lastL key info k) v
  g : Below w.heap.size w v

set_option maxRecDepth 100000 in
set_option maxHeartbeats 16000000 in
theorem refExpand_any (a : Option Addr) (c : Nat) (l : List UInt8) (a2 : Option Addr) (c2 : Nat) (l2 : List UInt8) (n : Nat) (hn : n ≤ 8160) (w : World) (hB : Bytes w.heap.size w.heap.size a l w) (hm : l.length ≤ 140737488351232)
    (hn2 : a2 = none → l2 = [] ∧ c2 = 0) (hB2 : Bytes w.heap.size w.heap.size a2 l2 w) (hm2 : l2.length ≤ 140737488351232) :
    Calls Tryd.prog 49 #[.slice a l.length c, .slice a2 l2.length c2, .int .i64 (n : Int)] w fun e w' => ∃ q k, e = .returned (.slice q n k) ∧ w'.ownsRow w.heap.size 5 1 (.slice q n k) n (Go.Lib.byteCells (expL l l2 n)) ∧ Below w.heap.size w w' := by
  have HB := Lib.hid hB
  have HM := Lib.hid hm
  have HB2 := Lib.hid hB2
  have HN2 : Hid (a2 = none → l2.length = 0 ∧ c2 = 0) := Lib.hid (fun e => by rw [(hn2 e).1]; exact ⟨rfl, (hn2 e).2⟩)
  have HM2 := Lib.hid hm2
  obtain ⟨m, hmm⟩ : ∃ m, l.length = m := ⟨_, rfl⟩
  obtain ⟨m2, hmm2⟩ : ∃ m, l2.length = m := ⟨_, rfl⟩
  have HMm := Lib.hid hmm
  have HMm2 := Lib.hid hmm2
  rw [hmm2] at HN2
  rw [hmm, hmm2]
  have HX : Hid (∃ (k : Nat) (q : Option Addr) (c : Nat) (pl : Option Addr) (nl cl : Nat), Value.slice none 0 0 = .slice q (32 * k) c ∧ Value.slice none 0 0 = .slice pl nl cl ∧ Value.int .i64 1 = .int .i64 ((k + 1 : Nat) : Int) ∧ 32 * k < n + 32 ∧ Hid (XW w l l2 k q c pl nl cl w)) := Lib.hid
    ⟨0, none, 0, none, 0, 0, rfl, rfl, rfl, by omega, Lib.hid ⟨World.ownsRow_nil _ _ _ _, rfl, fun _ => ⟨rfl, rfl⟩, fun h => absurd rfl h, Below.refl _ _⟩⟩
  clear hB hm hn2 hB2 hm2 hmm hmm2
  go_enter Tryd.func49, Tryd.ntmps49
  go_wp2_with fail
  go_loopw [7, 8, 9] (fun s t v wr => ∃ (k : Nat) (q : Option Addr) (c : Nat) (pl : Option Addr) (nl cl : Nat), s = .slice q (32 * k) c ∧ t = .slice pl nl cl ∧ v = .int .i64 ((k + 1 : Nat) : Int) ∧ 32 * k < n + 32 ∧ Hid (XW w l l2 k q c pl nl cl wr)) (fun s _ _ _ => n - lenOf s)
  case atStart => exact HX.out
  case round =>
    clear HX
    obtain ⟨k, q, cq, pl, nl, cl, rfl, rfl, rfl, hk, hew⟩ := hrel
    by_cases hlt : 32 * k < n
    · obtain ⟨z, hz⟩ : ∃ z, 32 * k = z := ⟨_, rfl⟩
      have HZ := Lib.hid hz
      have hdi : decide ((z : Int) < (n : Int)) = true := decide_eq_true (by omega)
      have hti : (z : Int) < (n : Int) := by omega
      obtain ⟨x, hx⟩ : ∃ x, UInt8.ofNat (k + 1) = x := ⟨_, rfl⟩
      obtain ⟨i, hi⟩ : ∃ i, k + 1 = i := ⟨_, rfl⟩
      have HI1 := Lib.hid hi
      have hib : (i : Int) ≤ 2000000 := by omega
      have hxw : IntKind.u8.wrap (i : Int) = (x.toNat : Int) := by rw [IntKind.wrap_u8, ← hx, UInt8.toNat_ofNat', ← hi]; omega
      have hLn := lastL_le l l2 k
      obtain ⟨La, hLa⟩ : ∃ La, lastL l l2 k = La := ⟨_, rfl⟩
      obtain ⟨D, hD⟩ : ∃ D, lastL l l2 (k + 1) = D := ⟨_, rfl⟩
      have HDl : Hid (D.length = 32) := Lib.hid (by rw [← hD]; exact lastL_length _ _ _)
      have HLs : Hid (hmacL l (La ++ l2 ++ [x]) = D) := Lib.hid (by rw [← hD, lastL, hx, hLa])
      have HOs : Hid (outL l l2 i = outL l l2 k ++ D) := Lib.hid (by rw [← hi, outL, hD])
      have HDe : Hid (lastL l l2 i = D) := Lib.hid (by rw [← hi, hD])
      obtain ⟨ho, hnl, hnil, hl, hg⟩ := hew.out
      rw [hLa] at hnl hl hLn
      have HNl := Lib.hid hnl
      have HLn : Hid (nl ≤ 32) := Lib.hid (by omega)
      have HNil := Lib.hid hnil
      have HGr := Lib.hid hg
      obtain ⟨v1, hv1⟩ : ∃ v, v = wr.alloc (.cells #[] 5) := ⟨_, rfl⟩
      have HV1 := Lib.hid hv1.symm
      have HG1 : Hid (Below wr.heap.size wr v1) := Lib.hid (by rw [hv1]; exact (Below.refl _ _).alloc (Nat.le_refl _) _)
      have HO1 : Hid (v1.ownsRow wr.heap.size 5 1 (.slice (some ⟨wr.heap.size, 0, none⟩) 0 0) 0 (Go.Lib.byteCells [])) := Lib.hid (by
        rw [hv1]
        exact ⟨rfl, .inr ⟨wr.heap.size, 0, #[], rfl, Nat.le_refl _, heap_last _ _, Nat.le_refl _, by decide, rfl, rfl⟩⟩)
      have HBl1 : Hid (Bytes v1.heap.size v1.heap.size pl La v1) := Lib.hid ((hl.keep HG1.out).at HG1.out.size HG1.out.size)
      rw [hz] at ho ⊢
      have HOo := Lib.hid ho
      rw [hi]
      clear hew hnl hnil hl hg hv1 ho hlt hLn hx hLa hD hz
      go_wp2_with (first
        | (refine wpList_append_piece rfl (.tmp 18) (.tmp 19) rfl wr.heap.size _ 0 [] rfl HO1.out pl nl cl nl La rfl HNl.out HNil.out _ _ HBl1.out (Nat.zero_add _) (by have := HLn.out; omega) HG1.out.size ?_)
        | (refine wpList_world HV1.out ?_))
      intro qb kb w2 ho2 hg2
      have HG2 : Hid (Below wr.heap.size wr w2) := Lib.hid (HG1.out.grown hg2 HG1.out.size (fun k hk => (HO1.out.lt k hk).1))
      have HO2 : Hid (w2.ownsRow wr.heap.size 5 1 (.slice qb nl kb) nl (Go.Lib.byteCells La)) := Lib.hid ho2
      have HB22 : Hid (Bytes w2.heap.size w2.heap.size a2 l2 w2) := Lib.hid ((HB2.out.keep (HGr.out.trans (HG2.out.mono HGr.out.size))).at (Nat.le_trans HGr.out.size HG2.out.size) (Nat.le_trans HGr.out.size HG2.out.size))
      obtain ⟨Lb, hLb⟩ : ∃ Lb, La ++ l2 = Lb := ⟨_, rfl⟩
      have HLb := Lib.hid hLb
      obtain ⟨z1, hz1⟩ : ∃ z1, nl + m2 = z1 := ⟨_, rfl⟩
      have HZ1 := Lib.hid hz1
      have HBd : Hid (z1 ≤ 140737488351300) := Lib.hid (by have := HLn.out; have := HM2.out; have := HMm2.out; omega)
      clear ho2 hg2 hz1
      go_wp2_with (first
        | (refine wpList_append_piece rfl (.tmp 21) (.tmp 22) rfl wr.heap.size _ nl La rfl HO2.out a2 m2 c2 z1 l2 rfl HMm2.out HN2.out _ _ HB22.out HZ1.out (by have := HBd.out; omega) HG2.out.size ?_))
      intro qc kc w3 ho3 hg3
      have HG3 : Hid (Below wr.heap.size wr w3) := Lib.hid (HG2.out.grown hg3 HG2.out.size (fun k hk => (HO2.out.lt k hk).1))
      obtain ⟨v4, hv4⟩ : ∃ v, v = w3.alloc (.cells #[.int .u8 (x.toNat : Int)] 5) := ⟨_, rfl⟩
      have HV4 := Lib.hid hv4.symm
      have HG4 : Hid (Below wr.heap.size wr v4) := Lib.hid (by rw [hv4]; exact HG3.out.alloc HG3.out.size _)
      have HO4 : Hid (v4.ownsRow wr.heap.size 5 1 (.slice qc z1 kc) z1 (Go.Lib.byteCells Lb)) := Lib.hid (by rw [hv4]; exact ho3.alloc _)
      have HB4 : Hid (Bytes v4.heap.size v4.heap.size (some ⟨w3.heap.size, 0, none⟩) [x] v4) := Lib.hid (by rw [hv4]; exact lit_bytes w3 [x])
      obtain ⟨z2, hz2⟩ : ∃ z2, z1 + 1 = z2 := ⟨_, rfl⟩
      have HZ2 := Lib.hid hz2
      clear ho3 hg3 hv4 hz2 hLb
      go_wp2_with (first
        | (refine wpList_append_piece rfl (.tmp 24) (.tmp 27) rfl wr.heap.size _ z1 Lb rfl HO4.out (some ⟨w3.heap.size, 0, none⟩) 1 1 z2 [x] rfl rfl (fun h => by cases h) _ _ HB4.out HZ2.out (by have := HBd.out; have := HZ2.out; omega) HG4.out.size ?_)
        | (refine wpList_world HV4.out ?_))
      intro qd kd w5 ho5 hg5
      have HG5 : Hid (Below wr.heap.size wr w5) := Lib.hid (HG4.out.grown hg5 HG4.out.size (fun k hk => (HO4.out.lt k hk).1))
      have HGw5 : Hid (Below w.heap.size w w5) := Lib.hid (HGr.out.trans (HG5.out.mono HGr.out.size))
      have hle : (La ++ l2 ++ [x]).length = z2 := by rw [List.length_append, List.length_append, HNl.out, HMm2.out, List.length_singleton]; have := HZ1.out; have := HZ2.out; omega
      have ho5' : w5.ownsRow wr.heap.size 5 1 (.slice qd z2 kd) z2 (Go.Lib.byteCells (La ++ l2 ++ [x])) := by rw [HLb.out]; exact ho5
      have hqd : qd ≠ none := by
        obtain ⟨g, cur, e, _⟩ := owns_some ho5' hle (by have := HZ2.out; omega)
        rw [e]; simp
      have hb5 : Bytes w5.heap.size w5.heap.size qd (La ++ l2 ++ [x]) w5 := by
        obtain ⟨q9, c9, he, -, hb9⟩ := owns_bytes ho5' hle
        simp only [Value.slice.injEq, true_and] at he
        obtain ⟨rfl, rfl⟩ := he
        exact hb9
      have hSum := ref7Sum_any a c l qd kd (La ++ l2 ++ [x]) w5 ((HB.out.keep HGw5.out).at HGw5.out.size HGw5.out.size) HM.out (fun e => absurd e hqd) hb5 (by rw [hle]; have := HBd.out; have := HZ2.out; omega)
      rw [HLs.out, hle, HMm.out] at hSum
      unfold dig at hSum
      have HSum := Lib.hid hSum
      have HI := Lib.hid ((by kernel_rfl : (Tryd.prog.info? 47).map (·.size) = some 32).trans (show some 32 = some (Go.Lib.byteCells D).toArray.size by rw [List.size_toArray, bc_len, HDl.out]))
      have HZz : Hid ((Go.Lib.byteCells zero32).toArray.size = (Go.Lib.byteCells D).toArray.size) := Lib.hid (by rw [List.size_toArray, List.size_toArray, bc_len, bc_len, HDl.out]; rfl)
      have H1 := Lib.hid (dig_one D)
      clear ho5 hg5 hle ho5' hqd hb5 hSum
      go_wp2_with fail
      refine HSum.out.mono ?_
      rintro e w6 ⟨rfl, hb6⟩
      obtain ⟨b7, hb7⟩ : ∃ b, w6.heap.size = b := ⟨_, rfl⟩
      have HB7 := Lib.hid hb7
      obtain ⟨v7, hv7⟩ : ∃ v, v = w6.alloc (.cells (Go.Lib.byteCells D).toArray 47) := ⟨_, rfl⟩
      have HV7 := Lib.hid ((World.setRow_alloc_new w6 (Go.Lib.byteCells zero32).toArray (Go.Lib.byteCells D).toArray 47).trans hv7.symm)
      have hb57 : Below w5.heap.size w5 v7 := by rw [hv7]; exact hb6.alloc hb6.size _
      have HG7 : Hid (Below wr.heap.size wr v7) := Lib.hid (HG5.out.trans (hb57.mono HG5.out.size))
      have HR7 : Hid (v7.heap[b7]? = some (.cells (Go.Lib.byteCells D).toArray 47 (0, 0))) := Lib.hid (by rw [hv7, ← hb7]; exact heap_last _ _)
      obtain ⟨v8, hv8⟩ : ∃ v, v = v7.alloc (.cells #[] 5) := ⟨_, rfl⟩
      have HV8 := Lib.hid hv8.symm
      have hb78 : Below v7.heap.size v7 v8 := by rw [hv8]; exact (Below.refl _ _).alloc (Nat.le_refl _) _
      have HG78 := Lib.hid hb78
      have HR8 : Hid (v8.heap[b7]? = some (.cells (Go.Lib.byteCells D).toArray 47 (0, 0))) := Lib.hid ((hb78.block _ (Array.getElem?_eq_some_iff.1 HR7.out).1).trans HR7.out)
      have HO8 : Hid (v8.ownsRow v7.heap.size 5 1 (.slice (some ⟨v7.heap.size, 0, none⟩) 0 0) 0 (Go.Lib.byteCells [])) := Lib.hid (by
        rw [hv8]
        exact ⟨rfl, .inr ⟨v7.heap.size, 0, #[], rfl, Nat.le_refl _, heap_last _ _, Nat.le_refl _, by decide, rfl, rfl⟩⟩)
      have HBy8 : Hid (Bytes v8.heap.size v8.heap.size (some ⟨b7, 0, none⟩) D v8) := Lib.hid (row_bytes HR8.out (Array.getElem?_eq_some_iff.1 HR8.out).1 (by have := (Array.getElem?_eq_some_iff.1 HR8.out).1; omega))
      obtain ⟨t, ht⟩ : ∃ t, 32 = t := ⟨_, rfl⟩
      have HT32 := Lib.hid ht
      clear hb6 hb7 hv7 hb57 hv8 hb78 ht
      go_wp2_with (first
        | (refine wpList_store_row rfl 47 (.tmp 11) (.tmp 31) rfl w6.heap.size (Go.Lib.byteCells D).toArray rfl rfl 47 (Go.Lib.byteCells zero32).toArray (heap_last _ _) HI.out HZz.out H1.out ?_; refine wpList_world HV7.out ?_; rw [HB7.out])
        | (refine wpList_append_piece rfl (.tmp 32) (.tmp 33) rfl v7.heap.size _ 0 [] rfl HO8.out (some ⟨b7, 0, none⟩) 32 32 t D rfl HDl.out (fun h => by cases h) _ _ HBy8.out (by have := HT32.out; omega) (by have := HT32.out; omega) HG78.out.size ?_)
        | (refine wpList_world HV8.out ?_))
      intro qe ke w9 ho9 hg9
      have HG79 : Hid (Below v7.heap.size v7 w9) := Lib.hid (HG78.out.grown hg9 HG78.out.size (fun k hk => (HO8.out.lt k hk).1))
      have HG9 : Hid (Below wr.heap.size wr w9) := Lib.hid (HG7.out.trans (HG79.out.mono HG7.out.size))
      have HGw9 : Hid (Below w.heap.size w w9) := Lib.hid (HGr.out.trans (HG9.out.mono HGr.out.size))
      have HO9 : Hid (w9.ownsRow v7.heap.size 5 1 (.slice qe t ke) t (Go.Lib.byteCells D)) := Lib.hid ho9
      have HOo9 : Hid (w9.ownsRow w.heap.size 5 1 (.slice q z cq) z (Go.Lib.byteCells (outL l l2 k))) := Lib.hid (owns_keeps HOo.out (fun j _ hj => HG9.out.block j hj))
      have HDt : Hid (D.length = t) := Lib.hid (by rw [HDl.out]; exact HT32.out)
      have HNe : Hid (qe = none → t = 0 ∧ ke = 0) := Lib.hid (fun e => by
        obtain ⟨g, cur, e2, _⟩ := owns_some HO9.out HDt.out (by have := HT32.out; omega)
        rw [e] at e2; cases e2)
      have HBe : Hid (Bytes w9.heap.size w9.heap.size qe D w9) := Lib.hid (by
        obtain ⟨q9, c9, he, -, hb9⟩ := owns_bytes HO9.out HDt.out
        simp only [Value.slice.injEq, true_and] at he
        obtain ⟨rfl, rfl⟩ := he
        exact hb9)
      obtain ⟨zz, hzz⟩ : ∃ zz, z + t = zz := ⟨_, rfl⟩
      have HZZ := Lib.hid hzz
      have HKb := Lib.hid hk
      clear ho9 hg9 hzz
      go_wp2_with (first
        | (refine wpList_append_piece rfl (.tmp 35) (.tmp 36) rfl w.heap.size _ z (outL l l2 k) rfl HOo9.out qe t ke zz D rfl HDt.out HNe.out _ _ HBe.out HZZ.out (by have := HZZ.out; have := HZ.out; have := HKb.out; have := HT32.out; omega) HGw9.out.size ?_))
      intro qa ka wa hoa hga
      have HXW : Hid (XW w l l2 i qa ka qe t ke wa) := Lib.hid ⟨by
          rw [HOs.out, show 32 * i = zz by have := HZZ.out; have := HZ.out; have := HT32.out; have := HI1.out; omega]; exact hoa, by rw [HDe.out]; exact HDt.out, HNe.out, by
          rw [HDe.out]
          have h9 := owns_other HO9.out hga (fun j hj e => by
            have h1 := (HO9.out.lt j hj).1
            have h2 := (HOo.out.lt j e).2
            have h3 := HG7.out.size
            omega)
          obtain ⟨q9, c9, he, -, hb9⟩ := owns_bytes h9 HDt.out
          simp only [Value.slice.injEq, true_and] at he
          obtain ⟨rfl, rfl⟩ := he
          exact hb9, HGw9.out.grown hga HGw9.out.size (fun k hk => (HOo9.out.lt k hk).1)⟩
      clear hoa hga
      go_wp2_with fail
      go_roundw
      case rel => exact ⟨i, qa, ka, qe, t, ke, by rw [show 32 * i = zz by have := HZZ.out; have := HZ.out; have := HT32.out; have := HI1.out; omega], rfl, by go_num, by have := HI1.out; have := HZ.out; omega, HXW⟩
      case measure => simp [lenOf]; have := HZZ.out; have := HT32.out; omega
    · have hke : k = (n + 31) / 32 := by omega
      obtain ⟨z, hz⟩ : ∃ z, 32 * k = z := ⟨_, rfl⟩
      have hdi : decide ((z : Int) < (n : Int)) = false := decide_eq_false (by omega)
      have hti : ¬ (z : Int) < (n : Int) := by omega
      have HO := Lib.hid hew.out.o
      have HG := Lib.hid hew.out.g
      have hnil : q = none → n = 0 ∧ cq = 0 := fun e => by
        subst e
        rcases HO.out.2 with ⟨hv, h0⟩ | ⟨g, cap, cur, hv, _⟩
        · simp only [Value.slice.injEq, true_and] at hv
          exact ⟨by omega, hv.2⟩
        · cases hv
      have hcut : ∀ u, (Instr.sliceAt 28 (.slice q z cq) none (some (.int .i64 (n : Int))) none).run Tryd.prog u = .ok (.slice q n cq) u := fun u => by
        have h := HO.out
        rw [hz] at h
        rcases h.2 with ⟨hv, h0⟩ | ⟨g, cap, cur, hv, _, _, hzc, _⟩
        · simp only [Value.slice.injEq] at hv
          obtain ⟨rfl, rfl, rfl⟩ := hv
          obtain ⟨rfl, -⟩ := hnil rfl
          exact slice_none0 u
        · simp only [Value.slice.injEq] at hv
          obtain ⟨rfl, -, rfl⟩ := hv
          rcases Nat.eq_zero_or_pos cq with h1 | h1
          · obtain rfl : n = 0 := by omega
            obtain rfl : z = 0 := by omega
            subst h1
            rw [run_sliceAt_slice u 28 _ _ _ _ sliceElem, run_slice_h u 28 (some ⟨g, 0, none⟩) 0 0 sliceElem .i64 ((0 : Nat) : Int) (by omega) (by omega), sliceSize]
            simp [Result.andThen, sliced]
          · exact slice_cut g z cq n (by omega) h1 u
      have HS : Hid (wr.ownsRow w.heap.size 5 1 (.slice q n cq) n (Go.Lib.byteCells (expL l l2 n))) := Lib.hid (by
        unfold expL
        rw [← hke]
        exact owns_short HO.out (by omega) hnil (outL_length _ _ _))
      rw [hz]
      clear hew hlt hk hke hz hnil
      go_wp2_with fail
      go_ret
      exact ⟨q, cq, rfl, HS.out, HG.out⟩
end Go.Proofs.YtjjahcidncnogaaDoor
