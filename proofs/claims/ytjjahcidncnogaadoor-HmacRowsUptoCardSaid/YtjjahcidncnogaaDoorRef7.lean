/- The reference's keyed digest: its contract. -/
import Derived.Test.YtjjahcidncnogaaDoorRefSum
import Derived.Test.YtjjahcidncnogaaDoorMacX
import Derived.Test.YtjjahcidncnogaaDoorShaFreshA
namespace Go.Proofs.YtjjahcidncnogaaDoor
open Go.ChangeShapes Go.WideShapes Go.ChangeAt Go.RowKit Go.Lib

theorem owns_other {w w' : World} {B n : Nat} {v : Value} {xs : List Value} {r : Option Nat} (h : w.ownsRow B 5 1 v n xs) (hg : w.grownBy w' r) (hs : ∀ k, v.ownBlock = some k → r ≠ some k) : w'.ownsRow B 5 1 v n xs := by
  refine ⟨h.1, h.2.elim .inl fun ⟨g, cap, cur, hv, hB, hh, rest⟩ => .inr ⟨g, cap, cur, hv, hB, ?_, rest⟩⟩
  exact (hg.block g (Array.getElem?_eq_some_iff.1 hh).1 (fun e => hs g (by rw [hv]; rfl) e.symm)).trans hh
theorem mask_take_step (x : UInt8) (K : List UInt8) (i : Nat) (h : i < K.length) : (mask x K).take (i + 1) = (mask x K).take i ++ [K.getD i 0 ^^^ x] := by
  rw [List.take_succ_eq_append_getElem (by rw [mask_length]; exact h)]
  congr 1
  unfold mask
  simp [List.getD_eq_getElem?_getD, List.getElem?_eq_getElem h]
/-- How memory stands while the two masked keys are made. -/
structure KW (w : World) (K : List UInt8) (i : Nat) (p : Option Addr) (c : Nat) (q : Option Addr) (d : Nat) (v : World) : Prop where
  a : v.ownsRow w.heap.size 5 1 (.slice p i c) i (Go.Lib.byteCells ((mask 54 K).take i))
  b : v.ownsRow w.heap.size 5 1 (.slice q i d) i (Go.Lib.byteCells ((mask 92 K).take i))
  sep : ∀ k, (Value.slice p i c).ownBlock = some k → (Value.slice q i d).ownBlock ≠ some k
  g : Below w.heap.size w v

set_option maxRecDepth 100000 in
set_option maxHeartbeats 16000000 in
theorem ref7Sum_any (a : Option Addr) (c : Nat) (l : List UInt8) (a2 : Option Addr) (c2 : Nat) (l2 : List UInt8) (w : World) (hB : Bytes w.heap.size w.heap.size a l w) (hm : l.length ≤ 140737488351232)
    (hn2 : a2 = none → l2 = [] ∧ c2 = 0) (hB2 : Bytes w.heap.size w.heap.size a2 l2 w) (hm2 : l2.length ≤ 140737488352000) :
    Calls Tryd.prog 37 #[.slice a l.length c, .slice a2 l2.length c2] w fun e w' => e = .returned (dig (hmacL l l2)) ∧ Below w.heap.size w w' := by
  obtain ⟨R, hR⟩ : ∃ R, hmacL l l2 = R := ⟨_, rfl⟩
  have HR : Hid (shaL (mask 92 (macK l) ++ shaL (mask 54 (macK l) ++ l2)) = R) := Lib.hid hR
  have HRl : Hid (R.length = 32) := Lib.hid (by rw [← hR]; exact sumI_length _ _ _)
  rw [hR]
  obtain ⟨K, hK⟩ : ∃ K, macK l = K := ⟨_, rfl⟩
  rw [hK] at HR
  have HKl : Hid (K.length = 64) := Lib.hid (by
    rw [← hK]
    unfold macK
    have h1 : (keyOf l).length ≤ 64 := by
      unfold keyOf
      split
      · have h : (shaL l).length = 32 := sumI_length _ _ _
        omega
      · omega
    rw [List.length_append, List.length_drop, show zeroB.length = 64 from rfl]
    omega)
  have HKd : Hid (K = keyOf l ++ zeroB.drop (keyOf l).length) := Lib.hid hK.symm
  have HB := Lib.hid hB
  have HB2 := Lib.hid hB2
  have HN2 := Lib.hid hn2
  have HM2 := Lib.hid hm2
  have HI := Lib.hid ((by kernel_rfl : (Tryd.prog.info? 47).map (·.size) = some 32).trans (show some 32 = some (Go.Lib.byteCells R).toArray.size by rw [List.size_toArray, bc_len, HRl.out]))
  have H1 := Lib.hid (dig_one R)
  have HZ : Hid ((Go.Lib.byteCells zero32).toArray.size = (Go.Lib.byteCells R).toArray.size) := Lib.hid (by rw [List.size_toArray, List.size_toArray, bc_len, bc_len, HRl.out]; rfl)
  obtain ⟨v1, hv1⟩ : ∃ v, v = w.alloc (.cells (Go.Lib.byteCells zero32).toArray 47) := ⟨_, rfl⟩
  have HV1 := Lib.hid hv1.symm
  have HG1 : Hid (Below w.heap.size w v1) := Lib.hid (by rw [hv1]; exact (Below.refl _ w).alloc (Nat.le_refl _) _)
  have HZ1 : Hid (v1.heap[w.heap.size]? = some (.cells (Go.Lib.byteCells zero32).toArray 47 (0, 0))) := Lib.hid (by rw [hv1]; exact heap_last _ _)
  have HS1 : Hid (v1.heap.size = w.heap.size + 1) := Lib.hid (by rw [hv1]; simp)
  obtain ⟨n, hnn⟩ : ∃ n, l.length = n := ⟨_, rfl⟩
  obtain ⟨n2, hnn2⟩ : ∃ n, l2.length = n := ⟨_, rfl⟩
  have HNN := Lib.hid hnn
  have HNN2 := Lib.hid hnn2
  unfold dig
  by_cases hbig : 64 < n
  · have hd : decide ((64 : Int) < (n : Int)) = true := decide_eq_true (by omega)
    have hd2 : (64 : Int) < (n : Int) := by omega
    have HKo : Hid (keyOf l = shaL l) := Lib.hid (by unfold keyOf; rw [if_pos (by omega)])
    have hOf := refOf_any a c l v1 ((HB.out.keep HG1.out).at HG1.out.size HG1.out.size) (by omega)
    obtain ⟨D, hD⟩ : ∃ D, shaL l = D := ⟨_, rfl⟩
    have HDl : Hid (D.length = 32) := Lib.hid (by rw [← hD]; exact sumI_length _ _ _)
    rw [hD] at hOf HKo
    rw [hnn] at hOf
    unfold dig at hOf
    have HOf := Lib.hid hOf
    rw [hnn, hnn2]
    clear hR hK hB hB2 hn2 hm2 hv1 hnn hnn2 hbig hOf hD hm
    go_enter Tryd.func37, Tryd.ntmps37
    go_wp2_with fail
    refine calls_at HV1.out ?_
    refine HOf.out.mono ?_
    rintro e w2 ⟨rfl, hb2⟩
    obtain ⟨b5, hb5⟩ : ∃ b, w2.heap.size = b := ⟨_, rfl⟩
    have HB5 := Lib.hid hb5
    obtain ⟨v3, hv3⟩ : ∃ v, v = w2.alloc (.cells (Go.Lib.byteCells D).toArray 47) := ⟨_, rfl⟩
    have HV3 := Lib.hid ((World.setRow_alloc_new w2 (Go.Lib.byteCells zero32).toArray (Go.Lib.byteCells D).toArray 47).trans hv3.symm)
    have HG3 : Hid (Below v1.heap.size v1 v3) := Lib.hid (by rw [hv3]; exact hb2.alloc hb2.size _)
    have HR3 : Hid (v3.heap[b5]? = some (.cells (Go.Lib.byteCells D).toArray 47 (0, 0))) := Lib.hid (by rw [hv3, ← hb5]; exact heap_last _ _)
    have HIx := Lib.hid ((by kernel_rfl : (Tryd.prog.info? 47).map (·.size) = some 32).trans (show some 32 = some (Go.Lib.byteCells D).toArray.size by rw [List.size_toArray, bc_len, HDl.out]))
    have HZx : Hid ((Go.Lib.byteCells zero32).toArray.size = (Go.Lib.byteCells D).toArray.size) := Lib.hid (by rw [List.size_toArray, List.size_toArray, bc_len, bc_len, HDl.out]; rfl)
    have H1x := Lib.hid (dig_one D)
    obtain ⟨v4, hv4⟩ : ∃ v, v = v3.alloc (.cells #[] 5) := ⟨_, rfl⟩
    have HV4 := Lib.hid hv4.symm
    have hb34 : Below v3.heap.size v3 v4 := by rw [hv4]; exact (Below.refl _ _).alloc (Nat.le_refl _) _
    have HG4 : Hid (Below v1.heap.size v1 v4) := Lib.hid (HG3.out.trans (hb34.mono HG3.out.size))
    have HR4 : Hid (v4.heap[b5]? = some (.cells (Go.Lib.byteCells D).toArray 47 (0, 0))) := Lib.hid ((hb34.block _ (Array.getElem?_eq_some_iff.1 HR3.out).1).trans HR3.out)
    have HO4 : Hid (v4.ownsRow v1.heap.size 5 1 (.slice (some ⟨v3.heap.size, 0, none⟩) 0 0) 0 (Go.Lib.byteCells [])) := Lib.hid (by
      rw [hv4]
      exact ⟨rfl, .inr ⟨v3.heap.size, 0, #[], rfl, HG3.out.size, heap_last _ _, Nat.le_refl _, by decide, rfl, rfl⟩⟩)
    have hl4 := (Array.getElem?_eq_some_iff.1 HR4.out).1
    have HBy4 : Hid (Bytes v4.heap.size v4.heap.size (some ⟨b5, 0, none⟩) D v4) := Lib.hid (row_bytes HR4.out hl4 (by omega))
    obtain ⟨m, hmm⟩ : ∃ m, 32 = m := ⟨_, rfl⟩
    have HMm := Lib.hid hmm
    clear hv3 hb2 hv4 hb34 hl4 hb5 hmm
    go_wp2_with (first
      | (refine wpList_store_row rfl 47 (.tmp 5) (.tmp 15) rfl w2.heap.size (Go.Lib.byteCells D).toArray rfl rfl 47 (Go.Lib.byteCells zero32).toArray (heap_last _ _) HIx.out HZx.out H1x.out ?_; refine wpList_world HV3.out ?_; rw [HB5.out])
      | (refine wpList_append_piece rfl (.tmp 16) (.tmp 17) rfl v1.heap.size _ 0 [] rfl HO4.out (some ⟨b5, 0, none⟩) 32 32 m D rfl HDl.out (fun h => by cases h) _ _ HBy4.out (by have := HMm.out; omega) (by have := HMm.out; omega) HG4.out.size ?_)
      | (refine wpList_world HV4.out ?_))
    intro qk kk w5 ho5 hg5
    have HNk : Hid (m = (keyOf l).length ∧ m ≤ 64) := Lib.hid (by rw [HKo.out, HDl.out]; have := HMm.out; omega)
    have HOk := Lib.hid ho5
    have HG5 : Hid (Below v1.heap.size v1 w5) := Lib.hid (HG4.out.grown hg5 HG4.out.size (fun k hk => (HO4.out.lt k hk).1))
    have HBk : Hid (Bytes w5.heap.size w5.heap.size qk (keyOf l) w5) := Lib.hid (by
      obtain ⟨q9, c9, he, -, hb9⟩ := owns_bytes HOk.out (HDl.out.trans HMm.out)
      simp only [Value.slice.injEq, true_and] at he
      obtain ⟨rfl, rfl⟩ := he
      rw [HKo.out]
      exact hb9)
    clear ho5 hg5 hd hd2
    go_wp2_with fail
    obtain ⟨u, hu⟩ : ∃ u : World, u = w5 := ⟨_, rfl⟩
    have HUg : Hid (Below v1.heap.size v1 u) := Lib.hid (by rw [hu]; exact HG5.out)
    have HUk : Hid (Bytes u.heap.size u.heap.size qk (keyOf l) u) := Lib.hid (by rw [hu]; exact HBk.out)
    rw [← hu]
    clear hu
    have HX : Hid (∃ (i : Nat) (p : Option Addr) (cp : Nat) (q : Option Addr) (cq : Nat), Value.slice none 0 0 = .slice p i cp ∧ Value.slice none 0 0 = .slice q i cq ∧ Value.int .i64 0 = .int .i64 (i : Int) ∧ i ≤ 64 ∧ Hid (KW u K i p cp q cq u)) := Lib.hid
      ⟨0, none, 0, none, 0, rfl, rfl, rfl, by decide, Lib.hid ⟨World.ownsRow_nil _ _ _ _, World.ownsRow_nil _ _ _ _, (fun k h => by cases h), Below.refl _ _⟩⟩
    go_loopw [6, 7, 8] (fun s t v wr => ∃ (i : Nat) (p : Option Addr) (cp : Nat) (q : Option Addr) (cq : Nat), s = .slice p i cp ∧ t = .slice q i cq ∧ v = .int .i64 (i : Int) ∧ i ≤ 64 ∧ Hid (KW u K i p cp q cq wr)) (fun _ _ v _ => 64 - (RowKit.intOf v).toNat)
    case atStart => exact HX.out
    case round =>
      clear HX
      obtain ⟨i, p, cp, q, cq, rfl, rfl, rfl, hi, hkw⟩ := hrel
      by_cases hlt : i < 64
      · have hdi : decide ((i : Int) < 64) = true := decide_eq_true (by omega)
        have hti : (i : Int) < 64 := by omega
        obtain ⟨x, hx⟩ : ∃ x, K.getD i 0 = x := ⟨_, rfl⟩
        have HS1' : Hid ((mask 54 K).take (i + 1) = (mask 54 K).take i ++ [x ^^^ 54]) := Lib.hid (by rw [mask_take_step 54 K i (by rw [HKl.out]; exact hlt), hx])
        have HS2' : Hid ((mask 92 K).take (i + 1) = (mask 92 K).take i ++ [x ^^^ 92]) := Lib.hid (by rw [mask_take_step 92 K i (by rw [HKl.out]; exact hlt), hx])
        have x54 : bits .xor .u8 (x.toNat : Int) 54 = ((x ^^^ 54).toNat : Int) := xor_val x 54
        have x92 : bits .xor .u8 (x.toNat : Int) 92 = ((x ^^^ 92).toNat : Int) := xor_val x 92
        obtain ⟨y1, hy1⟩ : ∃ y, x ^^^ 54 = y := ⟨_, rfl⟩
        obtain ⟨y2, hy2⟩ : ∃ y, x ^^^ 92 = y := ⟨_, rfl⟩
        rw [hy1] at x54 HS1'
        rw [hy2] at x92 HS2'
        obtain ⟨t1, ht1⟩ : ∃ t, i + 1 = t := ⟨_, rfl⟩
        have HT1 := Lib.hid ht1
        rw [ht1] at HS1' HS2'
        -- what the two literals and the two appends leave
        obtain ⟨v6, hv6⟩ : ∃ v, v = wr.alloc (.cells (Go.Lib.byteCells [y1]).toArray 5) := ⟨_, rfl⟩
        have HV6 := Lib.hid hv6.symm
        have HO6 : Hid (v6.ownsRow u.heap.size 5 1 (.slice p i cp) i (Go.Lib.byteCells ((mask 54 K).take i))) := Lib.hid (by rw [hv6]; exact hkw.out.a.alloc _)
        have HP6 : Hid (v6.ownsRow u.heap.size 5 1 (.slice q i cq) i (Go.Lib.byteCells ((mask 92 K).take i))) := Lib.hid (by rw [hv6]; exact hkw.out.b.alloc _)
        have HL6 := Lib.hid (lit_bytes wr [y1])
        rw [← hv6] at HL6
        have HG6 : Hid (Below u.heap.size u v6) := Lib.hid (by rw [hv6]; exact hkw.out.g.alloc hkw.out.g.size _)
        have HSep := Lib.hid hkw.out.sep
        have HIl := Lib.hid hi
        have hkey : (∃ pb off, qk = some ⟨pb, off, none⟩ ∧ decide ((i : Int) < (m : Int)) = true ∧ wr.cell? ⟨pb, off + i, none⟩ = some (.int .u8 (x.toNat : Int)) ∧ i < m) ∨ (decide ((i : Int) < (m : Int)) = false ∧ x = 0 ∧ ¬ (i : Int) < (m : Int)) := by
          by_cases him : i < m
          · left
            have hlk : i < (keyOf l).length := by rw [← HNk.out.1]; exact him
            obtain ⟨pb, off, hp, hpb, -, hcl⟩ := HUk.out (by intro e; rw [e] at hlk; simp at hlk)
            refine ⟨pb, off, hp, decide_eq_true (by omega), ?_, him⟩
            rw [hkw.out.g.cell (p := ⟨pb, off + i, none⟩) hpb, hcl i hlk]
            have : K.getD i 0 = (keyOf l)[i] := by
              rw [HKd.out, List.getD_eq_getElem?_getD, List.getElem?_append_left hlk, List.getElem?_eq_getElem hlk]; rfl
            rw [← this, hx]
          · right
            refine ⟨decide_eq_false (by omega), ?_, by omega⟩
            have h1 := HNk.out.1
            rw [← hx, HKd.out, List.getD_eq_getElem?_getD, List.getElem?_append_right (by omega), List.getElem?_drop]
            have h2 : ∀ j, j < 64 → zeroB[j]? = some 0 := fun j hj => by unfold zeroB; rw [List.getElem?_replicate, if_pos hj]
            rw [h2 _ (by omega)]
            rfl
        clear hkw hx hy1 hy2 ht1 hv6
        rcases hkey with ⟨pb, off, hqo, hd3, ck, him⟩ | ⟨hd3, hx0, him⟩
        · subst hqo
          have him2 : (i : Int) < (m : Int) := by omega
          go_wp2_with (first
            | (refine wpList_append_where rfl (.tmp 31) (.tmp 34) rfl u.heap.size _ i ((mask 54 K).take i) rfl HO6.out ⟨wr.heap.size, 0, none⟩ 1 1 t1 [y1] rfl rfl (by decide) _ _ HL6.out HT1.out (by have := HT1.out; omega) HG6.out.size ?_)
            | (refine wpList_world HV6.out ?_))
          intro q7 k7 w7 ho7 hg7 hw7
          have HP7 : Hid (w7.ownsRow u.heap.size 5 1 (.slice q i cq) i (Go.Lib.byteCells ((mask 92 K).take i))) := Lib.hid (owns_other HP6.out hg7 (fun k hk e => HSep.out k e hk))
          have HG7 : Hid (Below u.heap.size u w7) := Lib.hid (HG6.out.grown hg7 HG6.out.size (fun k hk => (HO6.out.lt k hk).1))
          have HO7 : Hid (w7.ownsRow u.heap.size 5 1 (.slice q7 t1 k7) t1 (Go.Lib.byteCells ((mask 54 K).take t1))) := Lib.hid (by rw [HS1'.out]; exact ho7)
          have HSep7 : Hid (∀ k, (Value.slice q7 t1 k7).ownBlock = some k → (Value.slice q i cq).ownBlock ≠ some k) := Lib.hid (fun k hk e => by
            rcases hw7 k hk with h | h
            · exact HSep.out k h e
            · have := (HP6.out.lt k e).2; omega)
          obtain ⟨v8, hv8⟩ : ∃ v, v = w7.alloc (.cells (Go.Lib.byteCells [y2]).toArray 5) := ⟨_, rfl⟩
          have HV8 := Lib.hid hv8.symm
          have HO8 : Hid (v8.ownsRow u.heap.size 5 1 (.slice q7 t1 k7) t1 (Go.Lib.byteCells ((mask 54 K).take t1))) := Lib.hid (by rw [hv8]; exact HO7.out.alloc _)
          have HP8 : Hid (v8.ownsRow u.heap.size 5 1 (.slice q i cq) i (Go.Lib.byteCells ((mask 92 K).take i))) := Lib.hid (by rw [hv8]; exact HP7.out.alloc _)
          have HL8 := Lib.hid (lit_bytes w7 [y2])
          rw [← hv8] at HL8
          have HG8 : Hid (Below u.heap.size u v8) := Lib.hid (by rw [hv8]; exact HG7.out.alloc HG7.out.size _)
          clear ho7 hg7 hw7 hv8
          go_wp2_with (first
            | (refine wpList_append_where rfl (.tmp 36) (.tmp 39) rfl u.heap.size _ i ((mask 92 K).take i) rfl HP8.out ⟨w7.heap.size, 0, none⟩ 1 1 t1 [y2] rfl rfl (by decide) _ _ HL8.out HT1.out (by have := HT1.out; omega) HG8.out.size ?_)
            | (refine wpList_world HV8.out ?_))
          intro q9 k9 w9 ho9 hg9 hw9
          have HK9 : Hid (KW u K t1 q7 k7 q9 k9 w9) := Lib.hid ⟨owns_other HO8.out hg9 (fun k hk e => HSep7.out k hk e), by rw [HS2'.out]; exact ho9, fun k hk e => by
            rcases hw9 k e with h | h
            · exact HSep7.out k hk h
            · have := (HO8.out.lt k hk).2; omega, HG8.out.grown hg9 HG8.out.size (fun k hk => (HP8.out.lt k hk).1)⟩
          clear ho9 hg9 hw9
          go_wp2_with fail
          go_roundw
          case rel => exact ⟨t1, q7, k7, q9, k9, rfl, rfl, by rw [← HT1.out]; go_num, by have := HT1.out; omega, HK9⟩
          case measure => simp [RowKit.intOf]; have := HT1.out; omega
        · subst hx0
          have x54' : bits .xor .u8 0 54 = (y1.toNat : Int) := x54
          have x92' : bits .xor .u8 0 92 = (y2.toNat : Int) := x92
          go_wp2_with (first
            | (refine wpList_append_where rfl (.tmp 31) (.tmp 34) rfl u.heap.size _ i ((mask 54 K).take i) rfl HO6.out ⟨wr.heap.size, 0, none⟩ 1 1 t1 [y1] rfl rfl (by decide) _ _ HL6.out HT1.out (by have := HT1.out; omega) HG6.out.size ?_)
            | (refine wpList_world HV6.out ?_))
          intro q7 k7 w7 ho7 hg7 hw7
          have HP7 : Hid (w7.ownsRow u.heap.size 5 1 (.slice q i cq) i (Go.Lib.byteCells ((mask 92 K).take i))) := Lib.hid (owns_other HP6.out hg7 (fun k hk e => HSep.out k e hk))
          have HG7 : Hid (Below u.heap.size u w7) := Lib.hid (HG6.out.grown hg7 HG6.out.size (fun k hk => (HO6.out.lt k hk).1))
          have HO7 : Hid (w7.ownsRow u.heap.size 5 1 (.slice q7 t1 k7) t1 (Go.Lib.byteCells ((mask 54 K).take t1))) := Lib.hid (by rw [HS1'.out]; exact ho7)
          have HSep7 : Hid (∀ k, (Value.slice q7 t1 k7).ownBlock = some k → (Value.slice q i cq).ownBlock ≠ some k) := Lib.hid (fun k hk e => by
            rcases hw7 k hk with h | h
            · exact HSep.out k h e
            · have := (HP6.out.lt k e).2; omega)
          obtain ⟨v8, hv8⟩ : ∃ v, v = w7.alloc (.cells (Go.Lib.byteCells [y2]).toArray 5) := ⟨_, rfl⟩
          have HV8 := Lib.hid hv8.symm
          have HO8 : Hid (v8.ownsRow u.heap.size 5 1 (.slice q7 t1 k7) t1 (Go.Lib.byteCells ((mask 54 K).take t1))) := Lib.hid (by rw [hv8]; exact HO7.out.alloc _)
          have HP8 : Hid (v8.ownsRow u.heap.size 5 1 (.slice q i cq) i (Go.Lib.byteCells ((mask 92 K).take i))) := Lib.hid (by rw [hv8]; exact HP7.out.alloc _)
          have HL8 := Lib.hid (lit_bytes w7 [y2])
          rw [← hv8] at HL8
          have HG8 : Hid (Below u.heap.size u v8) := Lib.hid (by rw [hv8]; exact HG7.out.alloc HG7.out.size _)
          clear ho7 hg7 hw7 hv8
          go_wp2_with (first
            | (refine wpList_append_where rfl (.tmp 36) (.tmp 39) rfl u.heap.size _ i ((mask 92 K).take i) rfl HP8.out ⟨w7.heap.size, 0, none⟩ 1 1 t1 [y2] rfl rfl (by decide) _ _ HL8.out HT1.out (by have := HT1.out; omega) HG8.out.size ?_)
            | (refine wpList_world HV8.out ?_))
          intro q9 k9 w9 ho9 hg9 hw9
          have HK9 : Hid (KW u K t1 q7 k7 q9 k9 w9) := Lib.hid ⟨owns_other HO8.out hg9 (fun k hk e => HSep7.out k hk e), by rw [HS2'.out]; exact ho9, fun k hk e => by
            rcases hw9 k e with h | h
            · exact HSep7.out k hk h
            · have := (HO8.out.lt k hk).2; omega, HG8.out.grown hg9 HG8.out.size (fun k hk => (HP8.out.lt k hk).1)⟩
          clear ho9 hg9 hw9
          go_wp2_with fail
          go_roundw
          case rel => exact ⟨t1, q7, k7, q9, k9, rfl, rfl, by rw [← HT1.out]; go_num, by have := HT1.out; omega, HK9⟩
          case measure => simp [RowKit.intOf]; have := HT1.out; omega
      · obtain rfl : i = 64 := by omega
        have HOa : Hid (wr.ownsRow u.heap.size 5 1 (.slice p 64 cp) 64 (Go.Lib.byteCells (mask 54 K))) := Lib.hid (by have h := hkw.out.a; rwa [List.take_of_length_le (by rw [mask_length, HKl.out]; exact Nat.le_refl _)] at h)
        have HOb : Hid (wr.ownsRow u.heap.size 5 1 (.slice q 64 cq) 64 (Go.Lib.byteCells (mask 92 K))) := Lib.hid (by have h := hkw.out.b; rwa [List.take_of_length_le (by rw [mask_length, HKl.out]; exact Nat.le_refl _)] at h)
        have HSep := Lib.hid hkw.out.sep
        have HGu : Hid (Below u.heap.size u wr) := Lib.hid hkw.out.g
        have HGv : Hid (Below v1.heap.size v1 wr) := Lib.hid (HUg.out.trans (HGu.out.mono HUg.out.size))
        have HGw : Hid (Below w.heap.size w wr) := Lib.hid (HG1.out.trans (HGv.out.mono HG1.out.size))
        have HBm : Hid (Bytes wr.heap.size wr.heap.size a2 l2 wr) := Lib.hid ((HB2.out.keep HGw.out).at HGw.out.size HGw.out.size)
        have HNn : Hid (a2 = none → n2 = 0 ∧ c2 = 0) := Lib.hid (fun e => by have h := HN2.out e; rw [← HNN2.out, h.1]; exact ⟨rfl, h.2⟩)
        obtain ⟨z64, hz64⟩ : ∃ z, 64 = z := ⟨_, rfl⟩
        have HZ64 := Lib.hid hz64
        rw [hz64] at HOa HOb HSep
        obtain ⟨t2, ht2⟩ : ∃ t, z64 + n2 = t := ⟨_, rfl⟩
        have HT2 := Lib.hid ht2
        rw [show ((64 : Nat) : Int) = 64 from rfl, hz64]
        clear hkw hlt hi hz64 ht2
        go_wp2_with (refine wpList_append_piece rfl (.tmp 41) (.tmp 42) rfl u.heap.size _ z64 (mask 54 K) rfl HOa.out a2 n2 c2 t2 l2 rfl HNN2.out HNn.out _ _ HBm.out HT2.out (by have := HM2.out; have := HNN2.out; have := HT2.out; have := HZ64.out; omega) HGu.out.size ?_)
        intro q7 k7 w7 ho7 hg7
        have HOb7 : Hid (w7.ownsRow u.heap.size 5 1 (.slice q z64 cq) z64 (Go.Lib.byteCells (mask 92 K))) := Lib.hid (owns_other HOb.out hg7 (fun k hk e => HSep.out k e hk))
        have HG7 : Hid (Below u.heap.size u w7) := Lib.hid (HGu.out.grown hg7 HGu.out.size (fun k hk => (HOa.out.lt k hk).1))
        have HRow7 : Hid ((mask 54 K ++ l2).length = t2) := Lib.hid (by rw [List.length_append, mask_length, HKl.out, HNN2.out, ← HT2.out, ← HZ64.out])
        have hOf7 : Calls Tryd.prog 24 #[.slice q7 t2 k7] w7 fun e w' => e = .returned (dig (shaL (mask 54 K ++ l2))) ∧ Below w7.heap.size w7 w' := by
          obtain ⟨q9, c9, he, -, hb9⟩ := owns_bytes ho7 HRow7.out
          simp only [Value.slice.injEq, true_and] at he
          obtain ⟨rfl, rfl⟩ := he
          have h := refOf_any q7 k7 (mask 54 K ++ l2) w7 hb9 (by rw [HRow7.out]; have := HM2.out; have := HNN2.out; have := HT2.out; have := HZ64.out; omega)
          rw [HRow7.out] at h
          exact h
        obtain ⟨E, hE⟩ : ∃ E, shaL (mask 54 K ++ l2) = E := ⟨_, rfl⟩
        have HEl : Hid (E.length = 32) := Lib.hid (by rw [← hE]; exact sumI_length _ _ _)
        have HRE : Hid (shaL (mask 92 K ++ E) = R) := Lib.hid (by rw [← hE]; exact HR.out)
        rw [hE] at hOf7
        unfold dig at hOf7
        have HOf7 := Lib.hid hOf7
        clear ho7 hg7 hOf7 hE
        go_wp2_with fail
        refine HOf7.out.mono ?_
        rintro e w8 ⟨rfl, hb8⟩
        obtain ⟨b9, hb9⟩ : ∃ b, w8.heap.size = b := ⟨_, rfl⟩
        have HB9 := Lib.hid hb9
        obtain ⟨v9, hv9⟩ : ∃ v, v = w8.alloc (.cells (Go.Lib.byteCells E).toArray 47) := ⟨_, rfl⟩
        have HV9 := Lib.hid ((World.setRow_alloc_new w8 (Go.Lib.byteCells zero32).toArray (Go.Lib.byteCells E).toArray 47).trans hv9.symm)
        have hb79 : Below w7.heap.size w7 v9 := by rw [hv9]; exact hb8.alloc hb8.size _
        have HG9 : Hid (Below u.heap.size u v9) := Lib.hid (HG7.out.trans (hb79.mono HG7.out.size))
        have HR9 : Hid (v9.heap[b9]? = some (.cells (Go.Lib.byteCells E).toArray 47 (0, 0))) := Lib.hid (by rw [hv9, ← hb9]; exact heap_last _ _)
        have HOb9 : Hid (v9.ownsRow u.heap.size 5 1 (.slice q z64 cq) z64 (Go.Lib.byteCells (mask 92 K))) := Lib.hid (owns_keeps HOb7.out (fun j _ hj => hb79.block j hj))
        have hl9 := (Array.getElem?_eq_some_iff.1 HR9.out).1
        have HBy9 : Hid (Bytes v9.heap.size v9.heap.size (some ⟨b9, 0, none⟩) E v9) := Lib.hid (row_bytes HR9.out hl9 (by omega))
        have HIy := Lib.hid ((by kernel_rfl : (Tryd.prog.info? 47).map (·.size) = some 32).trans (show some 32 = some (Go.Lib.byteCells E).toArray.size by rw [List.size_toArray, bc_len, HEl.out]))
        have HZy : Hid ((Go.Lib.byteCells zero32).toArray.size = (Go.Lib.byteCells E).toArray.size) := Lib.hid (by rw [List.size_toArray, List.size_toArray, bc_len, bc_len, HEl.out]; rfl)
        have H1y := Lib.hid (dig_one E)
        obtain ⟨t3, ht3⟩ : ∃ t, z64 + 32 = t := ⟨_, rfl⟩
        have HT3 := Lib.hid ht3
        clear hv9 hb8 hb79 hl9 hb9 ht3
        go_wp2_with (first
          | (refine wpList_store_row rfl 47 (.tmp 10) (.tmp 44) rfl w8.heap.size (Go.Lib.byteCells E).toArray rfl rfl 47 (Go.Lib.byteCells zero32).toArray (heap_last _ _) HIy.out HZy.out H1y.out ?_; refine wpList_world HV9.out ?_; rw [HB9.out])
          | (refine wpList_append_piece rfl (.tmp 45) (.tmp 46) rfl u.heap.size _ z64 (mask 92 K) rfl HOb9.out (some ⟨b9, 0, none⟩) 32 32 t3 E rfl HEl.out (fun h => by cases h) _ _ HBy9.out HT3.out (by have := HT3.out; have := HZ64.out; omega) HG9.out.size ?_))
        intro qa ka wa hoa hga
        have HGa : Hid (Below u.heap.size u wa) := Lib.hid (HG9.out.grown hga HG9.out.size (fun k hk => (HOb9.out.lt k hk).1))
        have HRowa : Hid ((mask 92 K ++ E).length = t3) := Lib.hid (by rw [List.length_append, mask_length, HKl.out, HEl.out, ← HT3.out, ← HZ64.out])
        have hOfa : Calls Tryd.prog 24 #[.slice qa t3 ka] wa fun e w' => e = .returned (dig R) ∧ Below wa.heap.size wa w' := by
          obtain ⟨q9, c9, he, -, hb9⟩ := owns_bytes hoa HRowa.out
          simp only [Value.slice.injEq, true_and] at he
          obtain ⟨rfl, rfl⟩ := he
          have h := refOf_any qa ka (mask 92 K ++ E) wa hb9 (by rw [HRowa.out]; have := HT3.out; have := HZ64.out; omega)
          rw [HRowa.out, HRE.out] at h
          exact h
        unfold dig at hOfa
        have HOfa := Lib.hid hOfa
        clear hoa hga hOfa
        go_wp2_with fail
        refine HOfa.out.mono ?_
        rintro e wb ⟨rfl, hbb⟩
        have HGb : Hid (Below v1.heap.size v1 wb) := Lib.hid (HUg.out.trans ((HGa.out.trans (hbb.mono HGa.out.size)).mono HUg.out.size))
        have HRb : Hid (wb.heap[w.heap.size]? = some (.cells (Go.Lib.byteCells zero32).toArray 47 (0, 0))) := Lib.hid ((HGb.out.block _ (by rw [HS1.out]; omega)).trans HZ1.out)
        have HGbw : Hid (Below w.heap.size w wb) := Lib.hid (HG1.out.trans (HGb.out.mono HG1.out.size))
        clear hbb
        go_wp2_with (refine wpList_store_row rfl 47 (.tmp 4) (.tmp 48) rfl w.heap.size (Go.Lib.byteCells R).toArray rfl rfl 47 _ HRb.out HI.out HZ.out H1.out ?_)
        exact bodyPost_ret (results_cell_row rfl _ _ w.heap.size 47 (Go.Lib.byteCells R).toArray (0, 0) _ rfl (setRow_heap wb _ _ _ _ _ HRb.out) Tryd.underlying47 rfl HI.out) rfl ⟨rfl, HGbw.out.trans ⟨rfl, rfl, rfl, by simp, fun k hk => setRow_other wb _ k _ (by omega)⟩⟩
  · have hd : decide ((64 : Int) < (n : Int)) = false := decide_eq_false (by omega)
    have hd2 : ¬ (64 : Int) < (n : Int) := by omega
    have HKo : Hid (keyOf l = l) := Lib.hid (by unfold keyOf; rw [if_neg (by omega)])
    obtain ⟨qk, hqk⟩ : ∃ q, a = q := ⟨_, rfl⟩
    obtain ⟨kk, hkk⟩ : ∃ q, c = q := ⟨_, rfl⟩
    obtain ⟨m, hmm⟩ : ∃ m, n = m := ⟨_, rfl⟩
    obtain ⟨w5, hw5⟩ : ∃ w5, v1 = w5 := ⟨_, rfl⟩
    have HG5 : Hid (Below v1.heap.size v1 w5) := Lib.hid (by rw [← hw5]; exact Below.refl _ _)
    have HNk : Hid (m = (keyOf l).length ∧ m ≤ 64) := Lib.hid (by rw [HKo.out]; omega)
    have HBk : Hid (Bytes w5.heap.size w5.heap.size qk (keyOf l) w5) := Lib.hid (by rw [HKo.out, ← hqk, ← hw5]; exact (HB.out.keep HG1.out).at HG1.out.size HG1.out.size)
    rw [hw5] at HV1
    rw [hnn, hnn2, hqk, hkk, hmm]
    rw [hmm] at hd hd2
    clear hR hK hB hB2 hn2 hm2 hv1 hnn hnn2 hbig hqk hkk hmm hw5 hm
    go_enter Tryd.func37, Tryd.ntmps37
    go_wp2_with fail
    refine code_at HV1.out ?_
    obtain ⟨u, hu⟩ : ∃ u : World, u = w5 := ⟨_, rfl⟩
    have HUg : Hid (Below v1.heap.size v1 u) := Lib.hid (by rw [hu]; exact HG5.out)
    have HUk : Hid (Bytes u.heap.size u.heap.size qk (keyOf l) u) := Lib.hid (by rw [hu]; exact HBk.out)
    rw [← hu]
    clear hu
    have HX : Hid (∃ (i : Nat) (p : Option Addr) (cp : Nat) (q : Option Addr) (cq : Nat), Value.slice none 0 0 = .slice p i cp ∧ Value.slice none 0 0 = .slice q i cq ∧ Value.int .i64 0 = .int .i64 (i : Int) ∧ i ≤ 64 ∧ Hid (KW u K i p cp q cq u)) := Lib.hid
      ⟨0, none, 0, none, 0, rfl, rfl, rfl, by decide, Lib.hid ⟨World.ownsRow_nil _ _ _ _, World.ownsRow_nil _ _ _ _, (fun k h => by cases h), Below.refl _ _⟩⟩
    go_loopw [6, 7, 8] (fun s t v wr => ∃ (i : Nat) (p : Option Addr) (cp : Nat) (q : Option Addr) (cq : Nat), s = .slice p i cp ∧ t = .slice q i cq ∧ v = .int .i64 (i : Int) ∧ i ≤ 64 ∧ Hid (KW u K i p cp q cq wr)) (fun _ _ v _ => 64 - (RowKit.intOf v).toNat)
    case atStart => exact HX.out
    case round =>
      clear HX
      obtain ⟨i, p, cp, q, cq, rfl, rfl, rfl, hi, hkw⟩ := hrel
      by_cases hlt : i < 64
      · have hdi : decide ((i : Int) < 64) = true := decide_eq_true (by omega)
        have hti : (i : Int) < 64 := by omega
        obtain ⟨x, hx⟩ : ∃ x, K.getD i 0 = x := ⟨_, rfl⟩
        have HS1' : Hid ((mask 54 K).take (i + 1) = (mask 54 K).take i ++ [x ^^^ 54]) := Lib.hid (by rw [mask_take_step 54 K i (by rw [HKl.out]; exact hlt), hx])
        have HS2' : Hid ((mask 92 K).take (i + 1) = (mask 92 K).take i ++ [x ^^^ 92]) := Lib.hid (by rw [mask_take_step 92 K i (by rw [HKl.out]; exact hlt), hx])
        have x54 : bits .xor .u8 (x.toNat : Int) 54 = ((x ^^^ 54).toNat : Int) := xor_val x 54
        have x92 : bits .xor .u8 (x.toNat : Int) 92 = ((x ^^^ 92).toNat : Int) := xor_val x 92
        obtain ⟨y1, hy1⟩ : ∃ y, x ^^^ 54 = y := ⟨_, rfl⟩
        obtain ⟨y2, hy2⟩ : ∃ y, x ^^^ 92 = y := ⟨_, rfl⟩
        rw [hy1] at x54 HS1'
        rw [hy2] at x92 HS2'
        obtain ⟨t1, ht1⟩ : ∃ t, i + 1 = t := ⟨_, rfl⟩
        have HT1 := Lib.hid ht1
        rw [ht1] at HS1' HS2'
        -- what the two literals and the two appends leave
        obtain ⟨v6, hv6⟩ : ∃ v, v = wr.alloc (.cells (Go.Lib.byteCells [y1]).toArray 5) := ⟨_, rfl⟩
        have HV6 := Lib.hid hv6.symm
        have HO6 : Hid (v6.ownsRow u.heap.size 5 1 (.slice p i cp) i (Go.Lib.byteCells ((mask 54 K).take i))) := Lib.hid (by rw [hv6]; exact hkw.out.a.alloc _)
        have HP6 : Hid (v6.ownsRow u.heap.size 5 1 (.slice q i cq) i (Go.Lib.byteCells ((mask 92 K).take i))) := Lib.hid (by rw [hv6]; exact hkw.out.b.alloc _)
        have HL6 := Lib.hid (lit_bytes wr [y1])
        rw [← hv6] at HL6
        have HG6 : Hid (Below u.heap.size u v6) := Lib.hid (by rw [hv6]; exact hkw.out.g.alloc hkw.out.g.size _)
        have HSep := Lib.hid hkw.out.sep
        have HIl := Lib.hid hi
        have hkey : (∃ pb off, qk = some ⟨pb, off, none⟩ ∧ decide ((i : Int) < (m : Int)) = true ∧ wr.cell? ⟨pb, off + i, none⟩ = some (.int .u8 (x.toNat : Int)) ∧ i < m) ∨ (decide ((i : Int) < (m : Int)) = false ∧ x = 0 ∧ ¬ (i : Int) < (m : Int)) := by
          by_cases him : i < m
          · left
            have hlk : i < (keyOf l).length := by rw [← HNk.out.1]; exact him
            obtain ⟨pb, off, hp, hpb, -, hcl⟩ := HUk.out (by intro e; rw [e] at hlk; simp at hlk)
            refine ⟨pb, off, hp, decide_eq_true (by omega), ?_, him⟩
            rw [hkw.out.g.cell (p := ⟨pb, off + i, none⟩) hpb, hcl i hlk]
            have : K.getD i 0 = (keyOf l)[i] := by
              rw [HKd.out, List.getD_eq_getElem?_getD, List.getElem?_append_left hlk, List.getElem?_eq_getElem hlk]; rfl
            rw [← this, hx]
          · right
            refine ⟨decide_eq_false (by omega), ?_, by omega⟩
            have h1 := HNk.out.1
            rw [← hx, HKd.out, List.getD_eq_getElem?_getD, List.getElem?_append_right (by omega), List.getElem?_drop]
            have h2 : ∀ j, j < 64 → zeroB[j]? = some 0 := fun j hj => by unfold zeroB; rw [List.getElem?_replicate, if_pos hj]
            rw [h2 _ (by omega)]
            rfl
        clear hkw hx hy1 hy2 ht1 hv6
        rcases hkey with ⟨pb, off, hqo, hd3, ck, him⟩ | ⟨hd3, hx0, him⟩
        · subst hqo
          have him2 : (i : Int) < (m : Int) := by omega
          go_wp2_with (first
            | (refine wpList_append_where rfl (.tmp 31) (.tmp 34) rfl u.heap.size _ i ((mask 54 K).take i) rfl HO6.out ⟨wr.heap.size, 0, none⟩ 1 1 t1 [y1] rfl rfl (by decide) _ _ HL6.out HT1.out (by have := HT1.out; omega) HG6.out.size ?_)
            | (refine wpList_world HV6.out ?_))
          intro q7 k7 w7 ho7 hg7 hw7
          have HP7 : Hid (w7.ownsRow u.heap.size 5 1 (.slice q i cq) i (Go.Lib.byteCells ((mask 92 K).take i))) := Lib.hid (owns_other HP6.out hg7 (fun k hk e => HSep.out k e hk))
          have HG7 : Hid (Below u.heap.size u w7) := Lib.hid (HG6.out.grown hg7 HG6.out.size (fun k hk => (HO6.out.lt k hk).1))
          have HO7 : Hid (w7.ownsRow u.heap.size 5 1 (.slice q7 t1 k7) t1 (Go.Lib.byteCells ((mask 54 K).take t1))) := Lib.hid (by rw [HS1'.out]; exact ho7)
          have HSep7 : Hid (∀ k, (Value.slice q7 t1 k7).ownBlock = some k → (Value.slice q i cq).ownBlock ≠ some k) := Lib.hid (fun k hk e => by
            rcases hw7 k hk with h | h
            · exact HSep.out k h e
            · have := (HP6.out.lt k e).2; omega)
          obtain ⟨v8, hv8⟩ : ∃ v, v = w7.alloc (.cells (Go.Lib.byteCells [y2]).toArray 5) := ⟨_, rfl⟩
          have HV8 := Lib.hid hv8.symm
          have HO8 : Hid (v8.ownsRow u.heap.size 5 1 (.slice q7 t1 k7) t1 (Go.Lib.byteCells ((mask 54 K).take t1))) := Lib.hid (by rw [hv8]; exact HO7.out.alloc _)
          have HP8 : Hid (v8.ownsRow u.heap.size 5 1 (.slice q i cq) i (Go.Lib.byteCells ((mask 92 K).take i))) := Lib.hid (by rw [hv8]; exact HP7.out.alloc _)
          have HL8 := Lib.hid (lit_bytes w7 [y2])
          rw [← hv8] at HL8
          have HG8 : Hid (Below u.heap.size u v8) := Lib.hid (by rw [hv8]; exact HG7.out.alloc HG7.out.size _)
          clear ho7 hg7 hw7 hv8
          go_wp2_with (first
            | (refine wpList_append_where rfl (.tmp 36) (.tmp 39) rfl u.heap.size _ i ((mask 92 K).take i) rfl HP8.out ⟨w7.heap.size, 0, none⟩ 1 1 t1 [y2] rfl rfl (by decide) _ _ HL8.out HT1.out (by have := HT1.out; omega) HG8.out.size ?_)
            | (refine wpList_world HV8.out ?_))
          intro q9 k9 w9 ho9 hg9 hw9
          have HK9 : Hid (KW u K t1 q7 k7 q9 k9 w9) := Lib.hid ⟨owns_other HO8.out hg9 (fun k hk e => HSep7.out k hk e), by rw [HS2'.out]; exact ho9, fun k hk e => by
            rcases hw9 k e with h | h
            · exact HSep7.out k hk h
            · have := (HO8.out.lt k hk).2; omega, HG8.out.grown hg9 HG8.out.size (fun k hk => (HP8.out.lt k hk).1)⟩
          clear ho9 hg9 hw9
          go_wp2_with fail
          go_roundw
          case rel => exact ⟨t1, q7, k7, q9, k9, rfl, rfl, by rw [← HT1.out]; go_num, by have := HT1.out; omega, HK9⟩
          case measure => simp [RowKit.intOf]; have := HT1.out; omega
        · subst hx0
          have x54' : bits .xor .u8 0 54 = (y1.toNat : Int) := x54
          have x92' : bits .xor .u8 0 92 = (y2.toNat : Int) := x92
          go_wp2_with (first
            | (refine wpList_append_where rfl (.tmp 31) (.tmp 34) rfl u.heap.size _ i ((mask 54 K).take i) rfl HO6.out ⟨wr.heap.size, 0, none⟩ 1 1 t1 [y1] rfl rfl (by decide) _ _ HL6.out HT1.out (by have := HT1.out; omega) HG6.out.size ?_)
            | (refine wpList_world HV6.out ?_))
          intro q7 k7 w7 ho7 hg7 hw7
          have HP7 : Hid (w7.ownsRow u.heap.size 5 1 (.slice q i cq) i (Go.Lib.byteCells ((mask 92 K).take i))) := Lib.hid (owns_other HP6.out hg7 (fun k hk e => HSep.out k e hk))
          have HG7 : Hid (Below u.heap.size u w7) := Lib.hid (HG6.out.grown hg7 HG6.out.size (fun k hk => (HO6.out.lt k hk).1))
          have HO7 : Hid (w7.ownsRow u.heap.size 5 1 (.slice q7 t1 k7) t1 (Go.Lib.byteCells ((mask 54 K).take t1))) := Lib.hid (by rw [HS1'.out]; exact ho7)
          have HSep7 : Hid (∀ k, (Value.slice q7 t1 k7).ownBlock = some k → (Value.slice q i cq).ownBlock ≠ some k) := Lib.hid (fun k hk e => by
            rcases hw7 k hk with h | h
            · exact HSep.out k h e
            · have := (HP6.out.lt k e).2; omega)
          obtain ⟨v8, hv8⟩ : ∃ v, v = w7.alloc (.cells (Go.Lib.byteCells [y2]).toArray 5) := ⟨_, rfl⟩
          have HV8 := Lib.hid hv8.symm
          have HO8 : Hid (v8.ownsRow u.heap.size 5 1 (.slice q7 t1 k7) t1 (Go.Lib.byteCells ((mask 54 K).take t1))) := Lib.hid (by rw [hv8]; exact HO7.out.alloc _)
          have HP8 : Hid (v8.ownsRow u.heap.size 5 1 (.slice q i cq) i (Go.Lib.byteCells ((mask 92 K).take i))) := Lib.hid (by rw [hv8]; exact HP7.out.alloc _)
          have HL8 := Lib.hid (lit_bytes w7 [y2])
          rw [← hv8] at HL8
          have HG8 : Hid (Below u.heap.size u v8) := Lib.hid (by rw [hv8]; exact HG7.out.alloc HG7.out.size _)
          clear ho7 hg7 hw7 hv8
          go_wp2_with (first
            | (refine wpList_append_where rfl (.tmp 36) (.tmp 39) rfl u.heap.size _ i ((mask 92 K).take i) rfl HP8.out ⟨w7.heap.size, 0, none⟩ 1 1 t1 [y2] rfl rfl (by decide) _ _ HL8.out HT1.out (by have := HT1.out; omega) HG8.out.size ?_)
            | (refine wpList_world HV8.out ?_))
          intro q9 k9 w9 ho9 hg9 hw9
          have HK9 : Hid (KW u K t1 q7 k7 q9 k9 w9) := Lib.hid ⟨owns_other HO8.out hg9 (fun k hk e => HSep7.out k hk e), by rw [HS2'.out]; exact ho9, fun k hk e => by
            rcases hw9 k e with h | h
            · exact HSep7.out k hk h
            · have := (HO8.out.lt k hk).2; omega, HG8.out.grown hg9 HG8.out.size (fun k hk => (HP8.out.lt k hk).1)⟩
          clear ho9 hg9 hw9
          go_wp2_with fail
          go_roundw
          case rel => exact ⟨t1, q7, k7, q9, k9, rfl, rfl, by rw [← HT1.out]; go_num, by have := HT1.out; omega, HK9⟩
          case measure => simp [RowKit.intOf]; have := HT1.out; omega
      · obtain rfl : i = 64 := by omega
        have HOa : Hid (wr.ownsRow u.heap.size 5 1 (.slice p 64 cp) 64 (Go.Lib.byteCells (mask 54 K))) := Lib.hid (by have h := hkw.out.a; rwa [List.take_of_length_le (by rw [mask_length, HKl.out]; exact Nat.le_refl _)] at h)
        have HOb : Hid (wr.ownsRow u.heap.size 5 1 (.slice q 64 cq) 64 (Go.Lib.byteCells (mask 92 K))) := Lib.hid (by have h := hkw.out.b; rwa [List.take_of_length_le (by rw [mask_length, HKl.out]; exact Nat.le_refl _)] at h)
        have HSep := Lib.hid hkw.out.sep
        have HGu : Hid (Below u.heap.size u wr) := Lib.hid hkw.out.g
        have HGv : Hid (Below v1.heap.size v1 wr) := Lib.hid (HUg.out.trans (HGu.out.mono HUg.out.size))
        have HGw : Hid (Below w.heap.size w wr) := Lib.hid (HG1.out.trans (HGv.out.mono HG1.out.size))
        have HBm : Hid (Bytes wr.heap.size wr.heap.size a2 l2 wr) := Lib.hid ((HB2.out.keep HGw.out).at HGw.out.size HGw.out.size)
        have HNn : Hid (a2 = none → n2 = 0 ∧ c2 = 0) := Lib.hid (fun e => by have h := HN2.out e; rw [← HNN2.out, h.1]; exact ⟨rfl, h.2⟩)
        obtain ⟨z64, hz64⟩ : ∃ z, 64 = z := ⟨_, rfl⟩
        have HZ64 := Lib.hid hz64
        rw [hz64] at HOa HOb HSep
        obtain ⟨t2, ht2⟩ : ∃ t, z64 + n2 = t := ⟨_, rfl⟩
        have HT2 := Lib.hid ht2
        rw [show ((64 : Nat) : Int) = 64 from rfl, hz64]
        clear hkw hlt hi hz64 ht2
        go_wp2_with (refine wpList_append_piece rfl (.tmp 41) (.tmp 42) rfl u.heap.size _ z64 (mask 54 K) rfl HOa.out a2 n2 c2 t2 l2 rfl HNN2.out HNn.out _ _ HBm.out HT2.out (by have := HM2.out; have := HNN2.out; have := HT2.out; have := HZ64.out; omega) HGu.out.size ?_)
        intro q7 k7 w7 ho7 hg7
        have HOb7 : Hid (w7.ownsRow u.heap.size 5 1 (.slice q z64 cq) z64 (Go.Lib.byteCells (mask 92 K))) := Lib.hid (owns_other HOb.out hg7 (fun k hk e => HSep.out k e hk))
        have HG7 : Hid (Below u.heap.size u w7) := Lib.hid (HGu.out.grown hg7 HGu.out.size (fun k hk => (HOa.out.lt k hk).1))
        have HRow7 : Hid ((mask 54 K ++ l2).length = t2) := Lib.hid (by rw [List.length_append, mask_length, HKl.out, HNN2.out, ← HT2.out, ← HZ64.out])
        have hOf7 : Calls Tryd.prog 24 #[.slice q7 t2 k7] w7 fun e w' => e = .returned (dig (shaL (mask 54 K ++ l2))) ∧ Below w7.heap.size w7 w' := by
          obtain ⟨q9, c9, he, -, hb9⟩ := owns_bytes ho7 HRow7.out
          simp only [Value.slice.injEq, true_and] at he
          obtain ⟨rfl, rfl⟩ := he
          have h := refOf_any q7 k7 (mask 54 K ++ l2) w7 hb9 (by rw [HRow7.out]; have := HM2.out; have := HNN2.out; have := HT2.out; have := HZ64.out; omega)
          rw [HRow7.out] at h
          exact h
        obtain ⟨E, hE⟩ : ∃ E, shaL (mask 54 K ++ l2) = E := ⟨_, rfl⟩
        have HEl : Hid (E.length = 32) := Lib.hid (by rw [← hE]; exact sumI_length _ _ _)
        have HRE : Hid (shaL (mask 92 K ++ E) = R) := Lib.hid (by rw [← hE]; exact HR.out)
        rw [hE] at hOf7
        unfold dig at hOf7
        have HOf7 := Lib.hid hOf7
        clear ho7 hg7 hOf7 hE
        go_wp2_with fail
        refine HOf7.out.mono ?_
        rintro e w8 ⟨rfl, hb8⟩
        obtain ⟨b9, hb9⟩ : ∃ b, w8.heap.size = b := ⟨_, rfl⟩
        have HB9 := Lib.hid hb9
        obtain ⟨v9, hv9⟩ : ∃ v, v = w8.alloc (.cells (Go.Lib.byteCells E).toArray 47) := ⟨_, rfl⟩
        have HV9 := Lib.hid ((World.setRow_alloc_new w8 (Go.Lib.byteCells zero32).toArray (Go.Lib.byteCells E).toArray 47).trans hv9.symm)
        have hb79 : Below w7.heap.size w7 v9 := by rw [hv9]; exact hb8.alloc hb8.size _
        have HG9 : Hid (Below u.heap.size u v9) := Lib.hid (HG7.out.trans (hb79.mono HG7.out.size))
        have HR9 : Hid (v9.heap[b9]? = some (.cells (Go.Lib.byteCells E).toArray 47 (0, 0))) := Lib.hid (by rw [hv9, ← hb9]; exact heap_last _ _)
        have HOb9 : Hid (v9.ownsRow u.heap.size 5 1 (.slice q z64 cq) z64 (Go.Lib.byteCells (mask 92 K))) := Lib.hid (owns_keeps HOb7.out (fun j _ hj => hb79.block j hj))
        have hl9 := (Array.getElem?_eq_some_iff.1 HR9.out).1
        have HBy9 : Hid (Bytes v9.heap.size v9.heap.size (some ⟨b9, 0, none⟩) E v9) := Lib.hid (row_bytes HR9.out hl9 (by omega))
        have HIy := Lib.hid ((by kernel_rfl : (Tryd.prog.info? 47).map (·.size) = some 32).trans (show some 32 = some (Go.Lib.byteCells E).toArray.size by rw [List.size_toArray, bc_len, HEl.out]))
        have HZy : Hid ((Go.Lib.byteCells zero32).toArray.size = (Go.Lib.byteCells E).toArray.size) := Lib.hid (by rw [List.size_toArray, List.size_toArray, bc_len, bc_len, HEl.out]; rfl)
        have H1y := Lib.hid (dig_one E)
        obtain ⟨t3, ht3⟩ : ∃ t, z64 + 32 = t := ⟨_, rfl⟩
        have HT3 := Lib.hid ht3
        clear hv9 hb8 hb79 hl9 hb9 ht3
        go_wp2_with (first
          | (refine wpList_store_row rfl 47 (.tmp 10) (.tmp 44) rfl w8.heap.size (Go.Lib.byteCells E).toArray rfl rfl 47 (Go.Lib.byteCells zero32).toArray (heap_last _ _) HIy.out HZy.out H1y.out ?_; refine wpList_world HV9.out ?_; rw [HB9.out])
          | (refine wpList_append_piece rfl (.tmp 45) (.tmp 46) rfl u.heap.size _ z64 (mask 92 K) rfl HOb9.out (some ⟨b9, 0, none⟩) 32 32 t3 E rfl HEl.out (fun h => by cases h) _ _ HBy9.out HT3.out (by have := HT3.out; have := HZ64.out; omega) HG9.out.size ?_))
        intro qa ka wa hoa hga
        have HGa : Hid (Below u.heap.size u wa) := Lib.hid (HG9.out.grown hga HG9.out.size (fun k hk => (HOb9.out.lt k hk).1))
        have HRowa : Hid ((mask 92 K ++ E).length = t3) := Lib.hid (by rw [List.length_append, mask_length, HKl.out, HEl.out, ← HT3.out, ← HZ64.out])
        have hOfa : Calls Tryd.prog 24 #[.slice qa t3 ka] wa fun e w' => e = .returned (dig R) ∧ Below wa.heap.size wa w' := by
          obtain ⟨q9, c9, he, -, hb9⟩ := owns_bytes hoa HRowa.out
          simp only [Value.slice.injEq, true_and] at he
          obtain ⟨rfl, rfl⟩ := he
          have h := refOf_any qa ka (mask 92 K ++ E) wa hb9 (by rw [HRowa.out]; have := HT3.out; have := HZ64.out; omega)
          rw [HRowa.out, HRE.out] at h
          exact h
        unfold dig at hOfa
        have HOfa := Lib.hid hOfa
        clear hoa hga hOfa
        go_wp2_with fail
        refine HOfa.out.mono ?_
        rintro e wb ⟨rfl, hbb⟩
        have HGb : Hid (Below v1.heap.size v1 wb) := Lib.hid (HUg.out.trans ((HGa.out.trans (hbb.mono HGa.out.size)).mono HUg.out.size))
        have HRb : Hid (wb.heap[w.heap.size]? = some (.cells (Go.Lib.byteCells zero32).toArray 47 (0, 0))) := Lib.hid ((HGb.out.block _ (by rw [HS1.out]; omega)).trans HZ1.out)
        have HGbw : Hid (Below w.heap.size w wb) := Lib.hid (HG1.out.trans (HGb.out.mono HG1.out.size))
        clear hbb
        go_wp2_with (refine wpList_store_row rfl 47 (.tmp 4) (.tmp 48) rfl w.heap.size (Go.Lib.byteCells R).toArray rfl rfl 47 _ HRb.out HI.out HZ.out H1.out ?_)
        exact bodyPost_ret (results_cell_row rfl _ _ w.heap.size 47 (Go.Lib.byteCells R).toArray (0, 0) _ rfl (setRow_heap wb _ _ _ _ _ HRb.out) Tryd.underlying47 rfl HI.out) rfl ⟨rfl, HGbw.out.trans ⟨rfl, rfl, rfl, by simp, fun k hk => setRow_other wb _ k _ (by omega)⟩⟩
end Go.Proofs.YtjjahcidncnogaaDoor
