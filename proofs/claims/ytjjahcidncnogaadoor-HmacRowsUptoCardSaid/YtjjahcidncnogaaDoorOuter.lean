/- What is handed in with marks behind it, and whether it stays: contracts. -/
import Derived.Test.YtjjahcidncnogaaDoorRows7
namespace Go.Proofs.YtjjahcidncnogaaDoor
open Go.ChangeShapes Go.WideShapes Go.ChangeAt Go.RowKit Go.Lib

theorem sliceElemR : Tryd.prog.underlying 33 = some (.slice (Tryd.prog.elem 33)) := by kernel_rfl
theorem sliceSizeR (w : World) : (sizeOf (Tryd.prog.elem 33)).run Tryd.prog w = .ok 1 w := by kernel_rfl
theorem slice_cutR (g n cap k : Nat) (hk : k ≤ cap) (h0 : 0 < cap) (w : World) :
    (Instr.sliceAt 33 (.slice (some ⟨g, 0, none⟩) n cap) none (some (.int .i64 (k : Int))) none).run Tryd.prog w = .ok (.slice (some ⟨g, 0, none⟩) k cap) w := by
  rw [run_sliceAt_slice w 33 _ _ _ _ sliceElemR, run_slice_h w 33 (some ⟨g, 0, none⟩) n cap sliceElemR .i64 (k : Int) (by omega) (by omega), sliceSizeR]
  simp only [Result.andThen, sliced, Int.toNat_natCast, Nat.sub_zero]
  rw [if_neg (by omega)]
  simp [Addr.add]
/-- append of rows to a row of rows of the call's own. -/
theorem wpList_append_rows {w : World} {ops : Array Oper} {rest : List Oper} {o : Oper} {a : Act} {Q : Exit → Act → World → Prop} (hgd : o.guard = none) (s x : Operand)
    (ho : o.op = .call { callee := .builtin .append, args := #[s, x], argTypes := #[33, 33] }) (base : Nat) (v : Value) (n : Nat) (xs : List Value) (hs : a.eval s = v) (hown : w.ownsRow base 28 1 v n xs)
    (q : Option Addr) (m c : Nat) (ys : List Value) (hx : a.eval x = .slice q m c) (hq : q = none → m = 0 ∧ c = 0) (hl : ys.length = m) (hcell : ∀ ad, q = some ad → ∀ j u, ys[j]? = some u → w.cell? (ad.add j) = some u) (h1 : ∀ u ∈ ys, u.oneCell' = true) (t : Nat) (ht : n + m = t) (hbytes : t ≤ 5000000000000) (hbase : base ≤ w.heap.size)
    (h : ∀ p cap w', w'.ownsRow base 28 1 (.slice p t cap) t (xs ++ ys) → w.grownBy w' v.ownBlock → wpList Tryd.prog ops Q rest (a.put o.dst (.slice p t cap)) w') : wpList Tryd.prog ops Q (o :: rest) a w := by
  obtain ⟨i0, hi, hz0, hz1, hz2⟩ := info_parts infoRow
  subst ht
  cases q with
  | none =>
    obtain ⟨rfl, rfl⟩ := hq rfl
    have hl0 : ys = [] := List.eq_nil_of_length_eq_zero hl
    subst hl0
    refine wpList_append_own_none hgd s x _ ho base 28 i0 1 Tryd.underlying33 hi v n _ hs hown hx ?_
    obtain ⟨p, cap, rfl⟩ := ownsR_slice hown
    refine h p cap w ?_ ⟨rfl, rfl, rfl, Nat.le_refl _, fun _ _ _ => rfl⟩
    rw [List.append_nil]
    exact hown
  | some ad =>
    refine wpList_append_own w hgd s x _ ho base 28 i0 (.slice none 0 0) 1 24 Tryd.underlying33 hi hz0 hz1 hz2 rfl (by decide) v n xs hs hown ad m c ys hx (by rw [hl, Nat.mul_one]) (hcell ad rfl) h1 (by unfold maxLen; omega) (by omega) hbase ?_
    intro v' w' hown' hg _
    obtain ⟨p, cap, rfl⟩ := ownsR_slice hown'
    exact h p cap w' hown' hg
/-- Marks in a row of rows. -/
def Tildes (xs : List Value) (w : World) : Prop := ∀ j, j < xs.length → ∃ h, xs[j]? = some (.slice (some ⟨h, 0, none⟩) 1 1) ∧ w.heap[h]? = some (.cells #[.int .u8 126] 5 (1, 2))
theorem Tildes.below {xs : List Value} {w w' : World} (h : Tildes xs w) (hb : Below w.heap.size w w') : Tildes xs w' := fun j hj =>
  let ⟨g, h1, h2⟩ := h j hj
  ⟨g, h1, (hb.block g (Array.getElem?_eq_some_iff.1 h2).1).trans h2⟩
theorem Tildes.grown {xs : List Value} {w w' : World} {base : Nat} {v : Value} {n : Nat} {ys : List Value} (h : Tildes xs w) (ho : w.ownsRow base 28 1 v n ys) (hg : w.grownBy w' v.ownBlock) : Tildes xs w' := fun j hj => by
  obtain ⟨g, h1, h2⟩ := h j hj
  refine ⟨g, h1, (hg.block g (Array.getElem?_eq_some_iff.1 h2).1 ?_).trans h2⟩
  intro e
  rcases ho.2 with ⟨rfl, _⟩ | ⟨g2, cap, cur, rfl, _, hh, _⟩
  · cases e
  · simp only [Value.ownBlock, Option.some.injEq] at e
    subst e
    rw [h2] at hh
    simp only [Option.some.injEq, Obj.cells.injEq] at hh
    exact absurd hh.2.1 (by decide)
theorem Tildes.snoc {xs : List Value} {w : World} (h : Tildes xs w) {g : Nat} (hg : w.heap[g]? = some (.cells #[.int .u8 126] 5 (1, 2))) : Tildes (xs ++ [.slice (some ⟨g, 0, none⟩) 1 1]) w := fun j hj => by
  by_cases e : j < xs.length
  · obtain ⟨g', h1, h2⟩ := h j e
    exact ⟨g', by rw [List.getElem?_append_left e]; exact h1, h2⟩
  · rw [List.length_append, List.length_singleton] at hj
    obtain rfl : j = xs.length := by omega
    exact ⟨g, by simp, hg⟩
theorem spares_one {B : Nat} {m : List UInt8} {L : Nat → List UInt8} {xs : List Value} {w : World} (h : Spares B m L xs w) : ∀ u ∈ xs, u.oneCell' = true := fun u hu => by
  obtain ⟨j, hj, rfl⟩ := List.getElem_of_mem hu
  obtain ⟨g, k, h1, _⟩ := h j hj
  rw [List.getElem?_eq_getElem hj] at h1
  rw [Option.some.inj h1]
  rfl

set_option maxRecDepth 100000 in
set_option maxHeartbeats 8000000 in
theorem outer_any (B : Nat) (q : Option Addr) (N c : Nat) (hN : N ≤ 1048576) (m : List UInt8) (L : Nat → List UInt8) (xs : List Value) (w : World) (ho : w.ownsRow B 28 1 (.slice q N c) N xs) (hx : xs.length = N) (hs : Spares B m L xs w) :
    Calls Tryd.prog 30 #[.slice q N c] w fun e w' => ∃ g k ys, e = .returned (.tuple #[.slice (some ⟨g, 0, none⟩) N k, .slice (some ⟨g, 0, none⟩) (N + 20) k]) ∧ ys.length = 20 ∧ w'.ownsRow w.heap.size 28 1 (.slice (some ⟨g, 0, none⟩) (N + 20) k) (N + 20) (xs ++ ys) ∧ Tildes ys w' ∧ Below w.heap.size w w' := by
  have HXl := Lib.hid hx
  have HOne := Lib.hid (spares_one hs)
  have HQ : Hid (q = none → N = 0 ∧ c = 0) := Lib.hid (fun e => by
    subst e
    rcases ho.2 with ⟨hv, h0⟩ | ⟨g, cap, cur, hv, _⟩
    · simp only [Value.slice.injEq, true_and] at hv
      exact ⟨h0, hv.2⟩
    · cases hv)
  obtain ⟨v1, hv1⟩ : ∃ v, v = w.alloc (.cells #[] 28) := ⟨_, rfl⟩
  have HV1 := Lib.hid hv1.symm
  have HG1 : Hid (Below w.heap.size w v1) := Lib.hid (by rw [hv1]; exact (Below.refl _ w).alloc (Nat.le_refl _) _)
  have HO1 : Hid (v1.ownsRow w.heap.size 28 1 (.slice (some ⟨w.heap.size, 0, none⟩) 0 0) 0 []) := Lib.hid (by
    rw [hv1]
    exact ⟨rfl, .inr ⟨w.heap.size, 0, #[], rfl, Nat.le_refl _, heap_last _ _, Nat.le_refl _, by decide, rfl, rfl⟩⟩)
  have HCl : Hid (∀ ad, q = some ad → ∀ j u, xs[j]? = some u → v1.cell? (ad.add j) = some u) := Lib.hid (fun ad hq j u hu => by
    have h1 := keeps_row ho (fun i hi => HG1.out.block i hi)
    rcases h1.2 with ⟨hv, _⟩ | ⟨g, cap, cur, hv, _⟩
    · rw [hq] at hv; cases hv
    · simp only [Value.slice.injEq] at hv
      rw [hv.1] at hq
      cases hq
      exact h1.cells (g := g) (by rw [hv.1]; rfl) j u hu)
  clear hv1 ho hx hs
  go_enter Tryd.func30, Tryd.ntmps30
  go_wp2_with (first
    | (refine wpList_append_rows rfl (.tmp 6) (.tmp 7) rfl w.heap.size _ 0 [] rfl HO1.out q N c xs rfl HQ.out HXl.out HCl.out HOne.out N (by omega) (by omega) HG1.out.size ?_)
    | (refine wpList_world HV1.out ?_))
  intro q2 k2 w2 ho2 hg2
  have HX : Hid (∃ (i : Nat) (q : Option Addr) (cq : Nat) (ys : List Value), Value.slice q2 N k2 = .slice q (N + i) cq ∧ Value.int .i64 0 = .int .i64 (i : Int) ∧ i ≤ 20 ∧ ys.length = i ∧ Hid (w2.ownsRow w.heap.size 28 1 (.slice q (N + i) cq) (N + i) (xs ++ ys)) ∧ Hid (Tildes ys w2) ∧ Hid (Below w.heap.size w w2)) := Lib.hid
    ⟨0, q2, k2, [], rfl, rfl, by decide, rfl, Lib.hid (by rw [List.append_nil]; exact ho2), Lib.hid (fun j hj => absurd hj (by simp)), Lib.hid (HG1.out.grown hg2 HG1.out.size (fun k hk => (HO1.out.lt k hk).1))⟩
  have kc := fun (w : World) (C : Array Value) (n c : Nat) => Lib.run_convert_bytes_const (P := Tryd.prog) w 28 5 C n c Tryd.underlying28 Tryd.underlying5
  clear ho2 hg2
  go_wp2_with fail
  go_loopw [4, 5] (fun s v wr => ∃ (i : Nat) (q : Option Addr) (cq : Nat) (ys : List Value), s = .slice q (N + i) cq ∧ v = .int .i64 (i : Int) ∧ i ≤ 20 ∧ ys.length = i ∧ Hid (wr.ownsRow w.heap.size 28 1 (.slice q (N + i) cq) (N + i) (xs ++ ys)) ∧ Hid (Tildes ys wr) ∧ Hid (Below w.heap.size w wr)) (fun _ v _ => 20 - (RowKit.intOf v).toNat)
  case atStart => exact HX.out
  case round =>
    clear HX
    obtain ⟨i, q3, c3, ys, rfl, rfl, h20, hy, ho, ht, hb⟩ := hrel
    have HY := Lib.hid hy
    by_cases hlt : i < 20
    · obtain ⟨z, hz⟩ : ∃ z, N + i = z := ⟨_, rfl⟩
      have HZ := Lib.hid hz
      have hd : decide ((i : Int) < 20) = true := decide_eq_true (by omega)
      have hti : (i : Int) < 20 := by omega
      obtain ⟨b, hbs⟩ : ∃ b, wr.heap.size = b := ⟨_, rfl⟩
      have HBS := Lib.hid hbs
      obtain ⟨v7, hv7⟩ : ∃ v, v = (wr.alloc (.cells #[.int .u8 126] 5 (1, 2))).alloc (.cells #[.slice (some ⟨b, 0, none⟩) 1 1] 28) := ⟨_, rfl⟩
      have HV7 := Lib.hid hv7.symm
      have hb7 : Below wr.heap.size wr v7 := by rw [hv7]; exact ((Below.refl _ _).alloc (Nat.le_refl _) _).alloc (by simp) _
      have HG7 : Hid (Below w.heap.size w v7) := Lib.hid (hb.out.trans (hb7.mono hb.out.size))
      have h6 : v7.heap[b]? = some (.cells #[.int .u8 126] 5 (1, 2)) := by
        rw [hv7, (MapKept.heap_alloc _ _).2 _ (by rw [← hbs]; simp), ← hbs]; exact heap_last _ _
      have HC7 : Hid (v7.cell? ⟨b + 1, 0, none⟩ = some (.slice (some ⟨b, 0, none⟩) 1 1)) := Lib.hid (by
        have h := heap_last (wr.alloc (.cells #[.int .u8 126] 5 (1, 2))) (.cells #[.slice (some ⟨b, 0, none⟩) 1 1] 28)
        rw [World.size_alloc, hbs, ← hv7] at h
        rw [cell_of_heap h]; rfl)
      have HT7 : Hid (Tildes (ys ++ [.slice (some ⟨b, 0, none⟩) 1 1]) v7) := Lib.hid ((ht.out.below hb7).snoc h6)
      have HO7 : Hid (v7.ownsRow w.heap.size 28 1 (.slice q3 z c3) z (xs ++ ys)) := Lib.hid (by have h := ho.out; rw [hz] at h; exact keeps_row h (fun j hj => hb7.block j hj))
      have kc1 := kc wr
      simp only [hbs] at kc1
      rw [hz]
      clear ho ht hb hv7 hb7 h6 hz hy
      go_wp2_with (first
        | (refine wpList_append_row1 rfl (.tmp 13) (.tmp 16) rfl w.heap.size _ z (xs ++ ys) rfl HO7.out (b + 1) 1 (.slice (some ⟨b, 0, none⟩) 1 1) rfl HC7.out rfl (z + 1) rfl (by have := HZ.out; omega) HG7.out.size ?_)
        | (refine wpList_world HV7.out ?_))
      intro q4 c4 w4 ho4 hg4
      have HO4 : Hid (w4.ownsRow w.heap.size 28 1 (.slice q4 (z + 1) c4) (z + 1) (xs ++ (ys ++ [.slice (some ⟨b, 0, none⟩) 1 1]))) := Lib.hid (by first | exact ho4 | (rw [← List.append_assoc]; exact ho4))
      have HT4 : Hid (Tildes (ys ++ [.slice (some ⟨b, 0, none⟩) 1 1]) w4) := Lib.hid (HT7.out.grown HO7.out hg4)
      have HG4 : Hid (Below w.heap.size w w4) := Lib.hid (HG7.out.grown hg4 HG7.out.size (fun k hk => (HO7.out.lt k hk).1))
      have HYl : Hid ((ys ++ [Value.slice (some ⟨b, 0, none⟩) 1 1]).length = i + 1) := Lib.hid (by rw [List.length_append, List.length_singleton, HY.out])
      have HZ1 : Hid (N + (i + 1) = z + 1) := Lib.hid (by have := HZ.out; omega)
      clear ho4 hg4 kc1 hbs
      go_wp2_with fail
      go_roundw
      case rel => exact ⟨i + 1, q4, c4, _, by rw [HZ1.out], by go_num, hlt, HYl.out, by rw [HZ1.out]; exact HO4, HT4, HG4⟩
      case measure => simp [RowKit.intOf]; omega
    · obtain rfl : i = 20 := by omega
      have hge : 0 < N + 20 := by omega
      rcases ho.out.2 with ⟨_, h0⟩ | ⟨g, cap, cur, hv, hgB, hgh, hnc, _⟩
      · omega
      · simp only [Value.slice.injEq] at hv
        obtain ⟨rfl, -, rfl⟩ := hv
        have hcut := fun w => slice_cutR g (N + 20) c3 N (by omega) (by omega) w
        clear hge hgB hgh hnc hlt h20 hy
        rw [show ((20 : Nat) : Int) = 20 from rfl]
        go_wp2_with fail
        go_returns
        exact ⟨g, c3, ys, rfl, HY.out, ho.out, ht.out, hb.out⟩

set_option maxRecDepth 100000 in
set_option maxHeartbeats 8000000 in
theorem keptAll_any (B : Nat) (q : Option Addr) (N c : Nat) (hN : N ≤ 1048576) (L : Nat → List UInt8) (xs : List Value) (p : Option Addr) (cap : Nat) (P : Nat → Option Addr) (C : Nat → Nat) (w : World) (ho : w.ownsRow B 28 1 (.slice q N c) N xs) (hx : xs.length = N) (hs : Spares B (List.replicate 70 165) L xs w)
    (hP : Parts w.heap.size p N P C L w) (hnil : ∀ i, i < N → P i = none → L i = [] ∧ C i = 0) :
    Calls Tryd.prog 34 #[.slice q N c, .slice p N cap] w fun e w' => e = .returned (.bool true) ∧ Below w.heap.size w w' := by
  have HO := Lib.hid ho
  have HXl := Lib.hid hx
  have HSp := Lib.hid hs
  have HP := Lib.hid hP
  have HNil := Lib.hid hnil
  clear ho hx hs hP hnil
  go_enter Tryd.func34, Tryd.ntmps34
  go_wp2_with fail
  go_loopw [8] (fun v wr => ∃ i : Nat, v = .int .i64 (i : Int) ∧ i ≤ N ∧ Hid (Below w.heap.size w wr)) (fun v _ => N - (RowKit.intOf v).toNat)
  case atStart => exact ⟨0, rfl, Nat.zero_le _, Lib.hid (Below.refl _ _)⟩
  case round =>
    obtain ⟨i, rfl, hi, hb⟩ := hrel
    by_cases hlt : i < N
    · obtain ⟨pb, off, hp, hpb, hc⟩ := HP.out.1 (by omega)
      subst hp
      obtain ⟨g, k, hxi, -, hsp⟩ := HSp.out i (by rw [HXl.out]; exact hlt)
      obtain ⟨hby, hlc, hlm⟩ := HP.out.2 i hlt
      have hown := HO.out
      rcases hown.2 with ⟨_, h0⟩ | ⟨gq, cap', cur, hv, _⟩
      · omega
      simp only [Value.slice.injEq] at hv
      obtain ⟨rfl, -, rfl⟩ := hv
      have hd : decide ((i : Int) < (N : Int)) = true := decide_eq_true (by omega)
      have hti : (i : Int) < (N : Int) := by omega
      have hg0 := hown.cells (g := gq) rfl i _ hxi
      rw [Addr.add_lit, Nat.zero_add] at hg0
      have hgl := World.block_lt_of_cell? _ _ hg0
      have hc2 := hc i hlt
      have hcl2 := World.block_lt_of_cell? _ _ hc2
      obtain ⟨SS, hSS⟩ : ∃ SS : World → Prop, SS = fun u => Below w.heap.size w u := ⟨_, rfl⟩
      have HS0 : Hid (SS wr.drew) := Lib.hid (by rw [hSS]; exact below_drawn 1 hb.out)
      have HSb : Hid (∀ u, SS u → Below w.heap.size w u) := Lib.hid (by rw [hSS]; exact fun u h => h)
      have HC1 : Hid (∀ u, SS u → u.cell? ⟨gq, i, none⟩ = some (.slice (some ⟨g, 0, none⟩) (L i).length k)) := Lib.hid (fun u h => ((HSb.out u h).cell (p := ⟨gq, i, none⟩) hgl).trans hg0)
      have HC2 : Hid (∀ u, SS u → u.cell? ⟨pb, off + i, none⟩ = some (.slice (P i) (L i).length (C i))) := Lib.hid (fun u h => ((HSb.out u h).cell (p := ⟨pb, off + i, none⟩) hcl2).trans hc2)
      have HKept : Hid (∀ u, SS u → Calls Tryd.prog 33 #[.slice (some ⟨g, 0, none⟩) (L i).length k, .slice (P i) (L i).length (C i)] u fun e w' => e = .returned (.bool true) ∧ w' = u) := Lib.hid (fun u h =>
        kept_any g k (P i) (C i) (L i) u (fun e => (HNil.out i hlt e).1) ((hby.keep (HSb.out u h)).at (HSb.out u h).size (HSb.out u h).size) hlm (hsp.below (HSb.out u h)).lent)
      obtain ⟨n, hnn⟩ : ∃ n, (L i).length = n := ⟨_, rfl⟩
      obtain ⟨Pi, hPi⟩ : ∃ x, P i = x := ⟨_, rfl⟩
      obtain ⟨Ci, hCi⟩ : ∃ x, C i = x := ⟨_, rfl⟩
      rw [hnn] at HC1 HC2 HKept
      rw [hPi, hCi] at HC2 HKept
      clear hc hby hlc hlm hpb hxi hsp hown hg0 hgl hc2 hcl2 hSS hnn hPi hCi hb
      go_wp2_with fail
      refine wp_region_held_drew (S := SS) (by kernel_rfl) HS0.out (fun hHeld => ?_)
      first | (refine held_take 0 _ rfl (by kernel_rfl) (by kernel_rfl) (by kernel_rfl) (v := ?_) (fun _ _ _ h => h) ?_ rfl hHeld ?_; rotate_left; focus (intro w hS; skip; go_simp; try with_reducible rfl)) | (refine held_skip 0 _ rfl (by kernel_rfl) (by kernel_rfl) (by kernel_rfl) (fun _ _ _ h => h) rfl hHeld ?_)
      show wpAnyH _ _ _ _ _ _ _ { tmps := _, defers := _ } _
      try dsimp only
      try simp only [List.setIfInBounds_toArray]
      try simp only [List.set_cons_succ]
      try simp only [List.set_cons_zero]
      first | (refine held_take 1 _ rfl (by kernel_rfl) (by kernel_rfl) (by kernel_rfl) (v := ?_) (fun _ _ _ h => h) ?_ rfl hHeld ?_; rotate_left; focus (intro w hS; skip; go_simp; try with_reducible rfl)) | (refine held_skip 1 _ rfl (by kernel_rfl) (by kernel_rfl) (by kernel_rfl) (fun _ _ _ h => h) rfl hHeld ?_)
      show wpAnyH _ _ _ _ _ _ _ { tmps := _, defers := _ } _
      try dsimp only
      try simp only [List.setIfInBounds_toArray]
      try simp only [List.set_cons_succ]
      try simp only [List.set_cons_zero]
      first | (refine held_take 2 _ rfl (by kernel_rfl) (by kernel_rfl) (by kernel_rfl) (v := ?_) (fun _ _ _ h => h) ?_ rfl hHeld ?_; rotate_left; focus (intro w hS; skip; go_simp; try with_reducible rfl)) | (refine held_skip 2 _ rfl (by kernel_rfl) (by kernel_rfl) (by kernel_rfl) (fun _ _ _ h => h) rfl hHeld ?_)
      show wpAnyH _ _ _ _ _ _ _ { tmps := _, defers := _ } _
      try dsimp only
      try simp only [List.setIfInBounds_toArray]
      try simp only [List.set_cons_succ]
      try simp only [List.set_cons_zero]
      first | (refine held_take 3 _ rfl (by kernel_rfl) (by kernel_rfl) (by kernel_rfl) (v := ?_) (fun _ _ _ h => h) ?_ rfl hHeld ?_; rotate_left; focus (intro w hS; have h := HC1.out w hS; go_simp; try with_reducible rfl)) | (refine held_skip 3 _ rfl (by kernel_rfl) (by kernel_rfl) (by kernel_rfl) (fun _ _ _ h => h) rfl hHeld ?_)
      show wpAnyH _ _ _ _ _ _ _ { tmps := _, defers := _ } _
      try dsimp only
      try simp only [List.setIfInBounds_toArray]
      try simp only [List.set_cons_succ]
      try simp only [List.set_cons_zero]
      first | (refine held_take 4 _ rfl (by kernel_rfl) (by kernel_rfl) (by kernel_rfl) (v := ?_) (fun _ _ _ h => h) ?_ rfl hHeld ?_; rotate_left; focus (intro w hS; skip; go_simp; try with_reducible rfl)) | (refine held_skip 4 _ rfl (by kernel_rfl) (by kernel_rfl) (by kernel_rfl) (fun _ _ _ h => h) rfl hHeld ?_)
      show wpAnyH _ _ _ _ _ _ _ { tmps := _, defers := _ } _
      try dsimp only
      try simp only [List.setIfInBounds_toArray]
      try simp only [List.set_cons_succ]
      try simp only [List.set_cons_zero]
      first | (refine held_take 5 _ rfl (by kernel_rfl) (by kernel_rfl) (by kernel_rfl) (v := ?_) (fun _ _ _ h => h) ?_ rfl hHeld ?_; rotate_left; focus (intro w hS; skip; go_simp; try with_reducible rfl)) | (refine held_skip 5 _ rfl (by kernel_rfl) (by kernel_rfl) (by kernel_rfl) (fun _ _ _ h => h) rfl hHeld ?_)
      show wpAnyH _ _ _ _ _ _ _ { tmps := _, defers := _ } _
      try dsimp only
      try simp only [List.setIfInBounds_toArray]
      try simp only [List.set_cons_succ]
      try simp only [List.set_cons_zero]
      first | (refine held_take 6 _ rfl (by kernel_rfl) (by kernel_rfl) (by kernel_rfl) (v := ?_) (fun _ _ _ h => h) ?_ rfl hHeld ?_; rotate_left; focus (intro w hS; skip; go_simp; try with_reducible rfl)) | (refine held_skip 6 _ rfl (by kernel_rfl) (by kernel_rfl) (by kernel_rfl) (fun _ _ _ h => h) rfl hHeld ?_)
      show wpAnyH _ _ _ _ _ _ _ { tmps := _, defers := _ } _
      try dsimp only
      try simp only [List.setIfInBounds_toArray]
      try simp only [List.set_cons_succ]
      try simp only [List.set_cons_zero]
      first | (refine held_take 7 _ rfl (by kernel_rfl) (by kernel_rfl) (by kernel_rfl) (v := ?_) (fun _ _ _ h => h) ?_ rfl hHeld ?_; rotate_left; focus (intro w hS; have h := HC2.out w hS; go_simp; try with_reducible rfl)) | (refine held_skip 7 _ rfl (by kernel_rfl) (by kernel_rfl) (by kernel_rfl) (fun _ _ _ h => h) rfl hHeld ?_)
      show wpAnyH _ _ _ _ _ _ _ { tmps := _, defers := _ } _
      try dsimp only
      try simp only [List.setIfInBounds_toArray]
      try simp only [List.set_cons_succ]
      try simp only [List.set_cons_zero]
      refine held_next 8 _ (by kernel_rfl) rfl rfl fun K hK => ?_
      go_simp
      refine (HKept.out _ hHeld).mono ?_
      rintro e wx ⟨rfl, rfl⟩
      show K _ _
      refine hK _ _ hHeld (fun hHeld => ?_)
      clear hK K
      show wpAnyH _ _ _ _ _ _ _ { tmps := _, defers := _ } _
      try dsimp only
      try simp only [List.setIfInBounds_toArray]
      try simp only [List.set_cons_succ]
      try simp only [List.set_cons_zero]
      first | (refine held_take 9 _ rfl (by kernel_rfl) (by kernel_rfl) (by kernel_rfl) (v := ?_) (fun _ _ _ h => h) ?_ rfl hHeld ?_; rotate_left; focus (intro w hS; skip; go_simp; try with_reducible rfl)) | (refine held_skip 9 _ rfl (by kernel_rfl) (by kernel_rfl) (by kernel_rfl) (fun _ _ _ h => h) rfl hHeld ?_)
      show wpAnyH _ _ _ _ _ _ _ { tmps := _, defers := _ } _
      try dsimp only
      try simp only [List.setIfInBounds_toArray]
      try simp only [List.set_cons_succ]
      try simp only [List.set_cons_zero]
      refine wpAnyH_done (by kernel_rfl) ?_ _
      have HF := Lib.hid (HSb.out _ hHeld)
      clear hHeld
      go_wp2_with fail
      go_roundw
      case rel => exact ⟨i + 1, by go_num, hlt, HF⟩
      case measure => simp [RowKit.intOf]; omega
    · obtain rfl : N = i := by omega
      have hd : decide ((N : Int) < (N : Int)) = false := decide_eq_false (by omega)
      clear hlt hi
      go_wp2_with fail
      go_ret
      exact ⟨rfl, hb.out⟩

set_option maxRecDepth 100000 in
set_option maxHeartbeats 16000000 in
theorem stays_any (B : Nat) (gq N c : Nat) (hN : N ≤ 1048576) (m : List UInt8) (L : Nat → List UInt8) (xs ys : List Value) (p : Option Addr) (cap : Nat) (P : Nat → Option Addr) (C : Nat → Nat) (w : World) (ho : w.ownsRow B 28 1 (.slice (some ⟨gq, 0, none⟩) (N + 20) c) (N + 20) (xs ++ ys)) (hx : xs.length = N) (hy : ys.length = 20)
    (B2 : Nat) (hs : Spares B2 m L xs w) (ht : Tildes ys w) (hP : Parts w.heap.size p N P C L w) (hnil : ∀ i, i < N → P i = none → L i = [] ∧ C i = 0) :
    Calls Tryd.prog 35 #[.slice (some ⟨gq, 0, none⟩) (N + 20) c, .slice p N cap] w fun e w' => e = .returned (.bool true) ∧ Below w.heap.size w w' := by
  have HO := Lib.hid ho
  have HXl := Lib.hid hx
  have HYl := Lib.hid hy
  have HSp := Lib.hid hs
  have HTl := Lib.hid ht
  have HP := Lib.hid hP
  have HNil := Lib.hid hnil
  obtain ⟨z, hz⟩ : ∃ z, N + 20 = z := ⟨_, rfl⟩
  have HZ := Lib.hid hz
  rw [hz]
  clear ho hx hy hs ht hP hnil
  go_enter Tryd.func35, Tryd.ntmps35
  go_wp2_with fail
  go_loopw [8] (fun v wr => ∃ i : Nat, v = .int .i64 (i : Int) ∧ i ≤ z ∧ Hid (Below w.heap.size w wr)) (fun v _ => z - (RowKit.intOf v).toNat)
  case atStart => exact ⟨0, rfl, Nat.zero_le _, Lib.hid (Below.refl _ _)⟩
  case round =>
    obtain ⟨i, rfl, hi, hb⟩ := hrel
    by_cases hlt : i < z
    · have hd : decide ((i : Int) < (z : Int)) = true := decide_eq_true (by omega)
      have hti : (i : Int) < (z : Int) := by omega
      have hi63 : (i : Int) ≤ 2000000 := by have := HZ.out; omega
      obtain ⟨SS, hSS⟩ : ∃ SS : World → Prop, SS = fun u => Below w.heap.size w u := ⟨_, rfl⟩
      have HS0 : Hid (SS wr.drew) := Lib.hid (by rw [hSS]; exact below_drawn 1 hb.out)
      have HSb : Hid (∀ u, SS u → Below w.heap.size w u) := Lib.hid (by rw [hSS]; exact fun u h => h)
      by_cases hN2 : i < N
      · obtain ⟨pb, off, hp, hpb, hc⟩ := HP.out.1 (by omega)
        subst hp
        obtain ⟨g, k, hxi, -, hsp⟩ := HSp.out i (by rw [HXl.out]; exact hN2)
        obtain ⟨hby, hlc, hlm⟩ := HP.out.2 i hN2
        have hg0 := HO.out.cells (g := gq) rfl i _ (by rw [List.getElem?_append_left (by rw [HXl.out]; exact hN2)]; exact hxi)
        rw [Addr.add_lit, Nat.zero_add] at hg0
        have hgl := World.block_lt_of_cell? _ _ hg0
        have hc2 := hc i hN2
        have hcl2 := World.block_lt_of_cell? _ _ hc2
        have hd2 : decide ((i : Int) < (N : Int)) = true := decide_eq_true (by omega)
        have hti2 : (i : Int) < (N : Int) := by omega
        have hd3 : decide ((N : Int) ≤ (i : Int)) = false := decide_eq_false (by omega)
        have hd4 : decide (N ≤ i) = false := decide_eq_false (by omega)
        have HC1 : Hid (∀ u, SS u → u.cell? ⟨gq, i, none⟩ = some (.slice (some ⟨g, 0, none⟩) (L i).length k)) := Lib.hid (fun u h => ((HSb.out u h).cell (p := ⟨gq, i, none⟩) hgl).trans hg0)
        have HC2 : Hid (∀ u, SS u → u.cell? ⟨pb, off + i, none⟩ = some (.slice (P i) (L i).length (C i))) := Lib.hid (fun u h => ((HSb.out u h).cell (p := ⟨pb, off + i, none⟩) hcl2).trans hc2)
        have HX1 : Hid (∀ u, SS u → (convert 28 9 (.slice (some ⟨g, 0, none⟩) (L i).length k)).run Tryd.prog u = .ok (.string ⟨(L i).toArray⟩) u) := Lib.hid (fun u h => bytes_text k (hsp.below (HSb.out u h)).bytes (fun e => by cases e))
        have HX2 : Hid (∀ u, SS u → (convert 28 9 (.slice (P i) (L i).length (C i))).run Tryd.prog u = .ok (.string ⟨(L i).toArray⟩) u) := Lib.hid (fun u h => bytes_text (C i) (hby.keep (HSb.out u h)) (fun e => (HNil.out i hN2 e).1))
        obtain ⟨n, hnn⟩ : ∃ n, (L i).length = n := ⟨_, rfl⟩
        obtain ⟨Pi, hPi⟩ : ∃ x, P i = x := ⟨_, rfl⟩
        obtain ⟨Ci, hCi⟩ : ∃ x, C i = x := ⟨_, rfl⟩
        obtain ⟨st, hst⟩ : ∃ s : ByteArray, (⟨(L i).toArray⟩ : ByteArray) = s := ⟨_, rfl⟩
        rw [hnn] at HC1 HC2 HX1 HX2
        rw [hPi, hCi] at HC2 HX2
        rw [hst] at HX1 HX2
        clear hc hby hlc hlm hpb hxi hsp hg0 hgl hc2 hcl2 hSS hnn hPi hCi hst hb hz
        go_wp2_with fail
        refine wp_region_held_drew (S := SS) (by kernel_rfl) HS0.out (fun hHeld => ?_)
        first | (refine held_take 0 _ rfl (by kernel_rfl) (by kernel_rfl) (by kernel_rfl) (v := ?_) (fun _ _ _ h => h) ?_ rfl hHeld ?_; rotate_left; focus (intro w hS; skip; go_simp; try with_reducible rfl)) | (refine held_skip 0 _ rfl (by kernel_rfl) (by kernel_rfl) (by kernel_rfl) (fun _ _ _ h => h) rfl hHeld ?_)
        show wpAnyH _ _ _ _ _ _ _ { tmps := _, defers := _ } _
        try dsimp only
        try simp only [List.setIfInBounds_toArray]
        try simp only [List.set_cons_succ]
        try simp only [List.set_cons_zero]
        first | (refine held_take 1 _ rfl (by kernel_rfl) (by kernel_rfl) (by kernel_rfl) (v := ?_) (fun _ _ _ h => h) ?_ rfl hHeld ?_; rotate_left; focus (intro w hS; skip; go_simp; try with_reducible rfl)) | (refine held_skip 1 _ rfl (by kernel_rfl) (by kernel_rfl) (by kernel_rfl) (fun _ _ _ h => h) rfl hHeld ?_)
        show wpAnyH _ _ _ _ _ _ _ { tmps := _, defers := _ } _
        try dsimp only
        try simp only [List.setIfInBounds_toArray]
        try simp only [List.set_cons_succ]
        try simp only [List.set_cons_zero]
        first | (refine held_take 2 _ rfl (by kernel_rfl) (by kernel_rfl) (by kernel_rfl) (v := ?_) (fun _ _ _ h => h) ?_ rfl hHeld ?_; rotate_left; focus (intro w hS; skip; go_simp; try with_reducible rfl)) | (refine held_skip 2 _ rfl (by kernel_rfl) (by kernel_rfl) (by kernel_rfl) (fun _ _ _ h => h) rfl hHeld ?_)
        show wpAnyH _ _ _ _ _ _ _ { tmps := _, defers := _ } _
        try dsimp only
        try simp only [List.setIfInBounds_toArray]
        try simp only [List.set_cons_succ]
        try simp only [List.set_cons_zero]
        first | (refine held_take 3 _ rfl (by kernel_rfl) (by kernel_rfl) (by kernel_rfl) (v := ?_) (fun _ _ _ h => h) ?_ rfl hHeld ?_; rotate_left; focus (intro w hS; skip; go_simp; try with_reducible rfl)) | (refine held_skip 3 _ rfl (by kernel_rfl) (by kernel_rfl) (by kernel_rfl) (fun _ _ _ h => h) rfl hHeld ?_)
        show wpAnyH _ _ _ _ _ _ _ { tmps := _, defers := _ } _
        try dsimp only
        try simp only [List.setIfInBounds_toArray]
        try simp only [List.set_cons_succ]
        try simp only [List.set_cons_zero]
        first | (refine held_take 4 _ rfl (by kernel_rfl) (by kernel_rfl) (by kernel_rfl) (v := ?_) (fun _ _ _ h => h) ?_ rfl hHeld ?_; rotate_left; focus (intro w hS; skip; go_simp; try with_reducible rfl)) | (refine held_skip 4 _ rfl (by kernel_rfl) (by kernel_rfl) (by kernel_rfl) (fun _ _ _ h => h) rfl hHeld ?_)
        show wpAnyH _ _ _ _ _ _ _ { tmps := _, defers := _ } _
        try dsimp only
        try simp only [List.setIfInBounds_toArray]
        try simp only [List.set_cons_succ]
        try simp only [List.set_cons_zero]
        first | (refine held_take 5 _ rfl (by kernel_rfl) (by kernel_rfl) (by kernel_rfl) (v := ?_) (fun _ _ _ h => h) ?_ rfl hHeld ?_; rotate_left; focus (intro w hS; skip; go_simp; try with_reducible rfl)) | (refine held_skip 5 _ rfl (by kernel_rfl) (by kernel_rfl) (by kernel_rfl) (fun _ _ _ h => h) rfl hHeld ?_)
        show wpAnyH _ _ _ _ _ _ _ { tmps := _, defers := _ } _
        try dsimp only
        try simp only [List.setIfInBounds_toArray]
        try simp only [List.set_cons_succ]
        try simp only [List.set_cons_zero]
        first | (refine held_take 6 _ rfl (by kernel_rfl) (by kernel_rfl) (by kernel_rfl) (v := ?_) (fun _ _ _ h => h) ?_ rfl hHeld ?_; rotate_left; focus (intro w hS; skip; go_simp; try with_reducible rfl)) | (refine held_skip 6 _ rfl (by kernel_rfl) (by kernel_rfl) (by kernel_rfl) (fun _ _ _ h => h) rfl hHeld ?_)
        show wpAnyH _ _ _ _ _ _ _ { tmps := _, defers := _ } _
        try dsimp only
        try simp only [List.setIfInBounds_toArray]
        try simp only [List.set_cons_succ]
        try simp only [List.set_cons_zero]
        first | (refine held_take 7 _ rfl (by kernel_rfl) (by kernel_rfl) (by kernel_rfl) (v := ?_) (fun _ _ _ h => h) ?_ rfl hHeld ?_; rotate_left; focus (intro w hS; skip; go_simp; try with_reducible rfl)) | (refine held_skip 7 _ rfl (by kernel_rfl) (by kernel_rfl) (by kernel_rfl) (fun _ _ _ h => h) rfl hHeld ?_)
        show wpAnyH _ _ _ _ _ _ _ { tmps := _, defers := _ } _
        try dsimp only
        try simp only [List.setIfInBounds_toArray]
        try simp only [List.set_cons_succ]
        try simp only [List.set_cons_zero]
        first | (refine held_take 8 _ rfl (by kernel_rfl) (by kernel_rfl) (by kernel_rfl) (v := ?_) (fun _ _ _ h => h) ?_ rfl hHeld ?_; rotate_left; focus (intro w hS; have h := HC1.out w hS; go_simp; try with_reducible rfl)) | (refine held_skip 8 _ rfl (by kernel_rfl) (by kernel_rfl) (by kernel_rfl) (fun _ _ _ h => h) rfl hHeld ?_)
        show wpAnyH _ _ _ _ _ _ _ { tmps := _, defers := _ } _
        try dsimp only
        try simp only [List.setIfInBounds_toArray]
        try simp only [List.set_cons_succ]
        try simp only [List.set_cons_zero]
        first | (refine held_take 9 _ rfl (by kernel_rfl) (by kernel_rfl) (by kernel_rfl) (v := ?_) (fun _ _ _ h => h) ?_ rfl hHeld ?_; rotate_left; focus (intro w hS; have h := HX1.out w hS; go_simp; try with_reducible rfl)) | (refine held_skip 9 _ rfl (by kernel_rfl) (by kernel_rfl) (by kernel_rfl) (fun _ _ _ h => h) rfl hHeld ?_)
        show wpAnyH _ _ _ _ _ _ _ { tmps := _, defers := _ } _
        try dsimp only
        try simp only [List.setIfInBounds_toArray]
        try simp only [List.set_cons_succ]
        try simp only [List.set_cons_zero]
        first | (refine held_take 10 _ rfl (by kernel_rfl) (by kernel_rfl) (by kernel_rfl) (v := ?_) (fun _ _ _ h => h) ?_ rfl hHeld ?_; rotate_left; focus (intro w hS; skip; go_simp; try with_reducible rfl)) | (refine held_skip 10 _ rfl (by kernel_rfl) (by kernel_rfl) (by kernel_rfl) (fun _ _ _ h => h) rfl hHeld ?_)
        show wpAnyH _ _ _ _ _ _ _ { tmps := _, defers := _ } _
        try dsimp only
        try simp only [List.setIfInBounds_toArray]
        try simp only [List.set_cons_succ]
        try simp only [List.set_cons_zero]
        first | (refine held_take 11 _ rfl (by kernel_rfl) (by kernel_rfl) (by kernel_rfl) (v := ?_) (fun _ _ _ h => h) ?_ rfl hHeld ?_; rotate_left; focus (intro w hS; skip; go_simp; try with_reducible rfl)) | (refine held_skip 11 _ rfl (by kernel_rfl) (by kernel_rfl) (by kernel_rfl) (fun _ _ _ h => h) rfl hHeld ?_)
        show wpAnyH _ _ _ _ _ _ _ { tmps := _, defers := _ } _
        try dsimp only
        try simp only [List.setIfInBounds_toArray]
        try simp only [List.set_cons_succ]
        try simp only [List.set_cons_zero]
        first | (refine held_take 12 _ rfl (by kernel_rfl) (by kernel_rfl) (by kernel_rfl) (v := ?_) (fun _ _ _ h => h) ?_ rfl hHeld ?_; rotate_left; focus (intro w hS; skip; go_simp; try with_reducible rfl)) | (refine held_skip 12 _ rfl (by kernel_rfl) (by kernel_rfl) (by kernel_rfl) (fun _ _ _ h => h) rfl hHeld ?_)
        show wpAnyH _ _ _ _ _ _ _ { tmps := _, defers := _ } _
        try dsimp only
        try simp only [List.setIfInBounds_toArray]
        try simp only [List.set_cons_succ]
        try simp only [List.set_cons_zero]
        first | (refine held_take 13 _ rfl (by kernel_rfl) (by kernel_rfl) (by kernel_rfl) (v := ?_) (fun _ _ _ h => h) ?_ rfl hHeld ?_; rotate_left; focus (intro w hS; have h := HC2.out w hS; go_simp; try with_reducible rfl)) | (refine held_skip 13 _ rfl (by kernel_rfl) (by kernel_rfl) (by kernel_rfl) (fun _ _ _ h => h) rfl hHeld ?_)
        show wpAnyH _ _ _ _ _ _ _ { tmps := _, defers := _ } _
        try dsimp only
        try simp only [List.setIfInBounds_toArray]
        try simp only [List.set_cons_succ]
        try simp only [List.set_cons_zero]
        first | (refine held_take 14 _ rfl (by kernel_rfl) (by kernel_rfl) (by kernel_rfl) (v := ?_) (fun _ _ _ h => h) ?_ rfl hHeld ?_; rotate_left; focus (intro w hS; have h := HX2.out w hS; go_simp; try with_reducible rfl)) | (refine held_skip 14 _ rfl (by kernel_rfl) (by kernel_rfl) (by kernel_rfl) (fun _ _ _ h => h) rfl hHeld ?_)
        show wpAnyH _ _ _ _ _ _ _ { tmps := _, defers := _ } _
        try dsimp only
        try simp only [List.setIfInBounds_toArray]
        try simp only [List.set_cons_succ]
        try simp only [List.set_cons_zero]
        first | (refine held_take 15 _ rfl (by kernel_rfl) (by kernel_rfl) (by kernel_rfl) (v := ?_) (fun _ _ _ h => h) ?_ rfl hHeld ?_; rotate_left; focus (intro w hS; skip; go_simp; try with_reducible rfl)) | (refine held_skip 15 _ rfl (by kernel_rfl) (by kernel_rfl) (by kernel_rfl) (fun _ _ _ h => h) rfl hHeld ?_)
        show wpAnyH _ _ _ _ _ _ _ { tmps := _, defers := _ } _
        try dsimp only
        try simp only [List.setIfInBounds_toArray]
        try simp only [List.set_cons_succ]
        try simp only [List.set_cons_zero]
        first | (refine held_take 16 _ rfl (by kernel_rfl) (by kernel_rfl) (by kernel_rfl) (v := ?_) (fun _ _ _ h => h) ?_ rfl hHeld ?_; rotate_left; focus (intro w hS; skip; go_simp; try with_reducible rfl)) | (refine held_skip 16 _ rfl (by kernel_rfl) (by kernel_rfl) (by kernel_rfl) (fun _ _ _ h => h) rfl hHeld ?_)
        show wpAnyH _ _ _ _ _ _ _ { tmps := _, defers := _ } _
        try dsimp only
        try simp only [List.setIfInBounds_toArray]
        try simp only [List.set_cons_succ]
        try simp only [List.set_cons_zero]
        first | (refine held_take 17 _ rfl (by kernel_rfl) (by kernel_rfl) (by kernel_rfl) (v := ?_) (fun _ _ _ h => h) ?_ rfl hHeld ?_; rotate_left; focus (intro w hS; skip; go_simp; try with_reducible rfl)) | (refine held_skip 17 _ rfl (by kernel_rfl) (by kernel_rfl) (by kernel_rfl) (fun _ _ _ h => h) rfl hHeld ?_)
        show wpAnyH _ _ _ _ _ _ _ { tmps := _, defers := _ } _
        try dsimp only
        try simp only [List.setIfInBounds_toArray]
        try simp only [List.set_cons_succ]
        try simp only [List.set_cons_zero]
        first | (refine held_take 18 _ rfl (by kernel_rfl) (by kernel_rfl) (by kernel_rfl) (v := ?_) (fun _ _ _ h => h) ?_ rfl hHeld ?_; rotate_left; focus (intro w hS; skip; go_simp; try with_reducible rfl)) | (refine held_skip 18 _ rfl (by kernel_rfl) (by kernel_rfl) (by kernel_rfl) (fun _ _ _ h => h) rfl hHeld ?_)
        show wpAnyH _ _ _ _ _ _ _ { tmps := _, defers := _ } _
        try dsimp only
        try simp only [List.setIfInBounds_toArray]
        try simp only [List.set_cons_succ]
        try simp only [List.set_cons_zero]
        first | (refine held_take 19 _ rfl (by kernel_rfl) (by kernel_rfl) (by kernel_rfl) (v := ?_) (fun _ _ _ h => h) ?_ rfl hHeld ?_; rotate_left; focus (intro w hS; skip; go_simp; try with_reducible rfl)) | (refine held_skip 19 _ rfl (by kernel_rfl) (by kernel_rfl) (by kernel_rfl) (fun _ _ _ h => h) rfl hHeld ?_)
        show wpAnyH _ _ _ _ _ _ _ { tmps := _, defers := _ } _
        try dsimp only
        try simp only [List.setIfInBounds_toArray]
        try simp only [List.set_cons_succ]
        try simp only [List.set_cons_zero]
        first | (refine held_take 20 _ rfl (by kernel_rfl) (by kernel_rfl) (by kernel_rfl) (v := ?_) (fun _ _ _ h => h) ?_ rfl hHeld ?_; rotate_left; focus (intro w hS; skip; go_simp; try with_reducible rfl)) | (refine held_skip 20 _ rfl (by kernel_rfl) (by kernel_rfl) (by kernel_rfl) (fun _ _ _ h => h) rfl hHeld ?_)
        show wpAnyH _ _ _ _ _ _ _ { tmps := _, defers := _ } _
        try dsimp only
        try simp only [List.setIfInBounds_toArray]
        try simp only [List.set_cons_succ]
        try simp only [List.set_cons_zero]
        first | (refine held_take 21 _ rfl (by kernel_rfl) (by kernel_rfl) (by kernel_rfl) (v := ?_) (fun _ _ _ h => h) ?_ rfl hHeld ?_; rotate_left; focus (intro w hS; skip; go_simp; try with_reducible rfl)) | (refine held_skip 21 _ rfl (by kernel_rfl) (by kernel_rfl) (by kernel_rfl) (fun _ _ _ h => h) rfl hHeld ?_)
        show wpAnyH _ _ _ _ _ _ _ { tmps := _, defers := _ } _
        try dsimp only
        try simp only [List.setIfInBounds_toArray]
        try simp only [List.set_cons_succ]
        try simp only [List.set_cons_zero]
        first | (refine held_take 22 _ rfl (by kernel_rfl) (by kernel_rfl) (by kernel_rfl) (v := ?_) (fun _ _ _ h => h) ?_ rfl hHeld ?_; rotate_left; focus (intro w hS; skip; go_simp; try with_reducible rfl)) | (refine held_skip 22 _ rfl (by kernel_rfl) (by kernel_rfl) (by kernel_rfl) (fun _ _ _ h => h) rfl hHeld ?_)
        show wpAnyH _ _ _ _ _ _ _ { tmps := _, defers := _ } _
        try dsimp only
        try simp only [List.setIfInBounds_toArray]
        try simp only [List.set_cons_succ]
        try simp only [List.set_cons_zero]
        first | (refine held_take 23 _ rfl (by kernel_rfl) (by kernel_rfl) (by kernel_rfl) (v := ?_) (fun _ _ _ h => h) ?_ rfl hHeld ?_; rotate_left; focus (intro w hS; skip; go_simp; try with_reducible rfl)) | (refine held_skip 23 _ rfl (by kernel_rfl) (by kernel_rfl) (by kernel_rfl) (fun _ _ _ h => h) rfl hHeld ?_)
        show wpAnyH _ _ _ _ _ _ _ { tmps := _, defers := _ } _
        try dsimp only
        try simp only [List.setIfInBounds_toArray]
        try simp only [List.set_cons_succ]
        try simp only [List.set_cons_zero]
        first | (refine held_take 24 _ rfl (by kernel_rfl) (by kernel_rfl) (by kernel_rfl) (v := ?_) (fun _ _ _ h => h) ?_ rfl hHeld ?_; rotate_left; focus (intro w hS; skip; go_simp; try with_reducible rfl)) | (refine held_skip 24 _ rfl (by kernel_rfl) (by kernel_rfl) (by kernel_rfl) (fun _ _ _ h => h) rfl hHeld ?_)
        show wpAnyH _ _ _ _ _ _ _ { tmps := _, defers := _ } _
        try dsimp only
        try simp only [List.setIfInBounds_toArray]
        try simp only [List.set_cons_succ]
        try simp only [List.set_cons_zero]
        first | (refine held_take 25 _ rfl (by kernel_rfl) (by kernel_rfl) (by kernel_rfl) (v := ?_) (fun _ _ _ h => h) ?_ rfl hHeld ?_; rotate_left; focus (intro w hS; skip; go_simp; try with_reducible rfl)) | (refine held_skip 25 _ rfl (by kernel_rfl) (by kernel_rfl) (by kernel_rfl) (fun _ _ _ h => h) rfl hHeld ?_)
        show wpAnyH _ _ _ _ _ _ _ { tmps := _, defers := _ } _
        try dsimp only
        try simp only [List.setIfInBounds_toArray]
        try simp only [List.set_cons_succ]
        try simp only [List.set_cons_zero]
        first | (refine held_take 26 _ rfl (by kernel_rfl) (by kernel_rfl) (by kernel_rfl) (v := ?_) (fun _ _ _ h => h) ?_ rfl hHeld ?_; rotate_left; focus (intro w hS; skip; go_simp; try with_reducible rfl)) | (refine held_skip 26 _ rfl (by kernel_rfl) (by kernel_rfl) (by kernel_rfl) (fun _ _ _ h => h) rfl hHeld ?_)
        show wpAnyH _ _ _ _ _ _ _ { tmps := _, defers := _ } _
        try dsimp only
        try simp only [List.setIfInBounds_toArray]
        try simp only [List.set_cons_succ]
        try simp only [List.set_cons_zero]
        first | (refine held_take 27 _ rfl (by kernel_rfl) (by kernel_rfl) (by kernel_rfl) (v := ?_) (fun _ _ _ h => h) ?_ rfl hHeld ?_; rotate_left; focus (intro w hS; skip; go_simp; try with_reducible rfl)) | (refine held_skip 27 _ rfl (by kernel_rfl) (by kernel_rfl) (by kernel_rfl) (fun _ _ _ h => h) rfl hHeld ?_)
        show wpAnyH _ _ _ _ _ _ _ { tmps := _, defers := _ } _
        try dsimp only
        try simp only [List.setIfInBounds_toArray]
        try simp only [List.set_cons_succ]
        try simp only [List.set_cons_zero]
        first | (refine held_take 28 _ rfl (by kernel_rfl) (by kernel_rfl) (by kernel_rfl) (v := ?_) (fun _ _ _ h => h) ?_ rfl hHeld ?_; rotate_left; focus (intro w hS; skip; go_simp; try with_reducible rfl)) | (refine held_skip 28 _ rfl (by kernel_rfl) (by kernel_rfl) (by kernel_rfl) (fun _ _ _ h => h) rfl hHeld ?_)
        show wpAnyH _ _ _ _ _ _ _ { tmps := _, defers := _ } _
        try dsimp only
        try simp only [List.setIfInBounds_toArray]
        try simp only [List.set_cons_succ]
        try simp only [List.set_cons_zero]
        first | (refine held_take 29 _ rfl (by kernel_rfl) (by kernel_rfl) (by kernel_rfl) (v := ?_) (fun _ _ _ h => h) ?_ rfl hHeld ?_; rotate_left; focus (intro w hS; skip; go_simp; try with_reducible rfl)) | (refine held_skip 29 _ rfl (by kernel_rfl) (by kernel_rfl) (by kernel_rfl) (fun _ _ _ h => h) rfl hHeld ?_)
        show wpAnyH _ _ _ _ _ _ _ { tmps := _, defers := _ } _
        try dsimp only
        try simp only [List.setIfInBounds_toArray]
        try simp only [List.set_cons_succ]
        try simp only [List.set_cons_zero]
        first | (refine held_take 30 _ rfl (by kernel_rfl) (by kernel_rfl) (by kernel_rfl) (v := ?_) (fun _ _ _ h => h) ?_ rfl hHeld ?_; rotate_left; focus (intro w hS; skip; go_simp; try with_reducible rfl)) | (refine held_skip 30 _ rfl (by kernel_rfl) (by kernel_rfl) (by kernel_rfl) (fun _ _ _ h => h) rfl hHeld ?_)
        show wpAnyH _ _ _ _ _ _ _ { tmps := _, defers := _ } _
        try dsimp only
        try simp only [List.setIfInBounds_toArray]
        try simp only [List.set_cons_succ]
        try simp only [List.set_cons_zero]
        refine wpAnyH_done (by kernel_rfl) ?_ _
        have HF := Lib.hid (HSb.out _ hHeld)
        clear hHeld
        go_wp2_with fail
        go_roundw
        case rel => exact ⟨i + 1, by go_num, hlt, HF⟩
        case measure => simp [RowKit.intOf]; omega
      · obtain ⟨h, hyi, hh⟩ := HTl.out (i - N) (by rw [HYl.out]; omega)
        have hg0 := HO.out.cells (g := gq) rfl i _ (by rw [List.getElem?_append_right (by rw [HXl.out]; omega), HXl.out]; exact hyi)
        rw [Addr.add_lit, Nat.zero_add] at hg0
        have hgl := World.block_lt_of_cell? _ _ hg0
        have hhl := (Array.getElem?_eq_some_iff.1 hh).1
        have hd2 : decide ((i : Int) < (N : Int)) = false := decide_eq_false (by omega)
        have hti2 : ¬ (i : Int) < (N : Int) := by omega
        have hd3 : decide ((N : Int) ≤ (i : Int)) = true := decide_eq_true (by omega)
        have hd4 : decide (N ≤ i) = true := decide_eq_true (by omega)
        have hti3 : (N : Int) ≤ (i : Int) := by omega
        have HC1 : Hid (∀ u, SS u → u.cell? ⟨gq, i, none⟩ = some (.slice (some ⟨h, 0, none⟩) 1 1)) := Lib.hid (fun u h => ((HSb.out u h).cell (p := ⟨gq, i, none⟩) hgl).trans hg0)
        have HX1 : Hid (∀ u, SS u → (convert 28 9 (.slice (some ⟨h, 0, none⟩) 1 1)).run Tryd.prog u = .ok (.string ⟨#[126]⟩) u) := Lib.hid (fun u hu => by
          have h3 : u.heap[h]? = some (.cells #[.int .u8 126] 5 (1, 2)) := ((HSb.out u hu).block h hhl).trans hh
          have hBy : Bytes u.heap.size u.heap.size (some ⟨h, 0, none⟩) [126] u := fun _ => ⟨h, 0, rfl, (Array.getElem?_eq_some_iff.1 h3).1, Nat.ne_of_lt (Array.getElem?_eq_some_iff.1 h3).1, fun j hj => by
            obtain rfl : j = 0 := by simp at hj; omega
            rw [cell_of_heap h3]; rfl⟩
          exact bytes_text (l := [126]) 1 hBy (fun e => by cases e))
        clear hyi hh hg0 hgl hhl hSS hb hz
        go_wp2_with fail
        refine wp_region_held_drew (S := SS) (by kernel_rfl) HS0.out (fun hHeld => ?_)
        first | (refine held_take 0 _ rfl (by kernel_rfl) (by kernel_rfl) (by kernel_rfl) (v := ?_) (fun _ _ _ h => h) ?_ rfl hHeld ?_; rotate_left; focus (intro w hS; skip; go_simp; try with_reducible rfl)) | (refine held_skip 0 _ rfl (by kernel_rfl) (by kernel_rfl) (by kernel_rfl) (fun _ _ _ h => h) rfl hHeld ?_)
        show wpAnyH _ _ _ _ _ _ _ { tmps := _, defers := _ } _
        try dsimp only
        try simp only [List.setIfInBounds_toArray]
        try simp only [List.set_cons_succ]
        try simp only [List.set_cons_zero]
        first | (refine held_take 1 _ rfl (by kernel_rfl) (by kernel_rfl) (by kernel_rfl) (v := ?_) (fun _ _ _ h => h) ?_ rfl hHeld ?_; rotate_left; focus (intro w hS; skip; go_simp; try with_reducible rfl)) | (refine held_skip 1 _ rfl (by kernel_rfl) (by kernel_rfl) (by kernel_rfl) (fun _ _ _ h => h) rfl hHeld ?_)
        show wpAnyH _ _ _ _ _ _ _ { tmps := _, defers := _ } _
        try dsimp only
        try simp only [List.setIfInBounds_toArray]
        try simp only [List.set_cons_succ]
        try simp only [List.set_cons_zero]
        first | (refine held_take 2 _ rfl (by kernel_rfl) (by kernel_rfl) (by kernel_rfl) (v := ?_) (fun _ _ _ h => h) ?_ rfl hHeld ?_; rotate_left; focus (intro w hS; skip; go_simp; try with_reducible rfl)) | (refine held_skip 2 _ rfl (by kernel_rfl) (by kernel_rfl) (by kernel_rfl) (fun _ _ _ h => h) rfl hHeld ?_)
        show wpAnyH _ _ _ _ _ _ _ { tmps := _, defers := _ } _
        try dsimp only
        try simp only [List.setIfInBounds_toArray]
        try simp only [List.set_cons_succ]
        try simp only [List.set_cons_zero]
        first | (refine held_take 3 _ rfl (by kernel_rfl) (by kernel_rfl) (by kernel_rfl) (v := ?_) (fun _ _ _ h => h) ?_ rfl hHeld ?_; rotate_left; focus (intro w hS; skip; go_simp; try with_reducible rfl)) | (refine held_skip 3 _ rfl (by kernel_rfl) (by kernel_rfl) (by kernel_rfl) (fun _ _ _ h => h) rfl hHeld ?_)
        show wpAnyH _ _ _ _ _ _ _ { tmps := _, defers := _ } _
        try dsimp only
        try simp only [List.setIfInBounds_toArray]
        try simp only [List.set_cons_succ]
        try simp only [List.set_cons_zero]
        first | (refine held_take 4 _ rfl (by kernel_rfl) (by kernel_rfl) (by kernel_rfl) (v := ?_) (fun _ _ _ h => h) ?_ rfl hHeld ?_; rotate_left; focus (intro w hS; skip; go_simp; try with_reducible rfl)) | (refine held_skip 4 _ rfl (by kernel_rfl) (by kernel_rfl) (by kernel_rfl) (fun _ _ _ h => h) rfl hHeld ?_)
        show wpAnyH _ _ _ _ _ _ _ { tmps := _, defers := _ } _
        try dsimp only
        try simp only [List.setIfInBounds_toArray]
        try simp only [List.set_cons_succ]
        try simp only [List.set_cons_zero]
        first | (refine held_take 5 _ rfl (by kernel_rfl) (by kernel_rfl) (by kernel_rfl) (v := ?_) (fun _ _ _ h => h) ?_ rfl hHeld ?_; rotate_left; focus (intro w hS; skip; go_simp; try with_reducible rfl)) | (refine held_skip 5 _ rfl (by kernel_rfl) (by kernel_rfl) (by kernel_rfl) (fun _ _ _ h => h) rfl hHeld ?_)
        show wpAnyH _ _ _ _ _ _ _ { tmps := _, defers := _ } _
        try dsimp only
        try simp only [List.setIfInBounds_toArray]
        try simp only [List.set_cons_succ]
        try simp only [List.set_cons_zero]
        first | (refine held_take 6 _ rfl (by kernel_rfl) (by kernel_rfl) (by kernel_rfl) (v := ?_) (fun _ _ _ h => h) ?_ rfl hHeld ?_; rotate_left; focus (intro w hS; skip; go_simp; try with_reducible rfl)) | (refine held_skip 6 _ rfl (by kernel_rfl) (by kernel_rfl) (by kernel_rfl) (fun _ _ _ h => h) rfl hHeld ?_)
        show wpAnyH _ _ _ _ _ _ _ { tmps := _, defers := _ } _
        try dsimp only
        try simp only [List.setIfInBounds_toArray]
        try simp only [List.set_cons_succ]
        try simp only [List.set_cons_zero]
        first | (refine held_take 7 _ rfl (by kernel_rfl) (by kernel_rfl) (by kernel_rfl) (v := ?_) (fun _ _ _ h => h) ?_ rfl hHeld ?_; rotate_left; focus (intro w hS; skip; go_simp; try with_reducible rfl)) | (refine held_skip 7 _ rfl (by kernel_rfl) (by kernel_rfl) (by kernel_rfl) (fun _ _ _ h => h) rfl hHeld ?_)
        show wpAnyH _ _ _ _ _ _ _ { tmps := _, defers := _ } _
        try dsimp only
        try simp only [List.setIfInBounds_toArray]
        try simp only [List.set_cons_succ]
        try simp only [List.set_cons_zero]
        first | (refine held_take 8 _ rfl (by kernel_rfl) (by kernel_rfl) (by kernel_rfl) (v := ?_) (fun _ _ _ h => h) ?_ rfl hHeld ?_; rotate_left; focus (intro w hS; skip; go_simp; try with_reducible rfl)) | (refine held_skip 8 _ rfl (by kernel_rfl) (by kernel_rfl) (by kernel_rfl) (fun _ _ _ h => h) rfl hHeld ?_)
        show wpAnyH _ _ _ _ _ _ _ { tmps := _, defers := _ } _
        try dsimp only
        try simp only [List.setIfInBounds_toArray]
        try simp only [List.set_cons_succ]
        try simp only [List.set_cons_zero]
        first | (refine held_take 9 _ rfl (by kernel_rfl) (by kernel_rfl) (by kernel_rfl) (v := ?_) (fun _ _ _ h => h) ?_ rfl hHeld ?_; rotate_left; focus (intro w hS; skip; go_simp; try with_reducible rfl)) | (refine held_skip 9 _ rfl (by kernel_rfl) (by kernel_rfl) (by kernel_rfl) (fun _ _ _ h => h) rfl hHeld ?_)
        show wpAnyH _ _ _ _ _ _ _ { tmps := _, defers := _ } _
        try dsimp only
        try simp only [List.setIfInBounds_toArray]
        try simp only [List.set_cons_succ]
        try simp only [List.set_cons_zero]
        first | (refine held_take 10 _ rfl (by kernel_rfl) (by kernel_rfl) (by kernel_rfl) (v := ?_) (fun _ _ _ h => h) ?_ rfl hHeld ?_; rotate_left; focus (intro w hS; skip; go_simp; try with_reducible rfl)) | (refine held_skip 10 _ rfl (by kernel_rfl) (by kernel_rfl) (by kernel_rfl) (fun _ _ _ h => h) rfl hHeld ?_)
        show wpAnyH _ _ _ _ _ _ _ { tmps := _, defers := _ } _
        try dsimp only
        try simp only [List.setIfInBounds_toArray]
        try simp only [List.set_cons_succ]
        try simp only [List.set_cons_zero]
        first | (refine held_take 11 _ rfl (by kernel_rfl) (by kernel_rfl) (by kernel_rfl) (v := ?_) (fun _ _ _ h => h) ?_ rfl hHeld ?_; rotate_left; focus (intro w hS; skip; go_simp; try with_reducible rfl)) | (refine held_skip 11 _ rfl (by kernel_rfl) (by kernel_rfl) (by kernel_rfl) (fun _ _ _ h => h) rfl hHeld ?_)
        show wpAnyH _ _ _ _ _ _ _ { tmps := _, defers := _ } _
        try dsimp only
        try simp only [List.setIfInBounds_toArray]
        try simp only [List.set_cons_succ]
        try simp only [List.set_cons_zero]
        first | (refine held_take 12 _ rfl (by kernel_rfl) (by kernel_rfl) (by kernel_rfl) (v := ?_) (fun _ _ _ h => h) ?_ rfl hHeld ?_; rotate_left; focus (intro w hS; skip; go_simp; try with_reducible rfl)) | (refine held_skip 12 _ rfl (by kernel_rfl) (by kernel_rfl) (by kernel_rfl) (fun _ _ _ h => h) rfl hHeld ?_)
        show wpAnyH _ _ _ _ _ _ _ { tmps := _, defers := _ } _
        try dsimp only
        try simp only [List.setIfInBounds_toArray]
        try simp only [List.set_cons_succ]
        try simp only [List.set_cons_zero]
        first | (refine held_take 13 _ rfl (by kernel_rfl) (by kernel_rfl) (by kernel_rfl) (v := ?_) (fun _ _ _ h => h) ?_ rfl hHeld ?_; rotate_left; focus (intro w hS; skip; go_simp; try with_reducible rfl)) | (refine held_skip 13 _ rfl (by kernel_rfl) (by kernel_rfl) (by kernel_rfl) (fun _ _ _ h => h) rfl hHeld ?_)
        show wpAnyH _ _ _ _ _ _ _ { tmps := _, defers := _ } _
        try dsimp only
        try simp only [List.setIfInBounds_toArray]
        try simp only [List.set_cons_succ]
        try simp only [List.set_cons_zero]
        first | (refine held_take 14 _ rfl (by kernel_rfl) (by kernel_rfl) (by kernel_rfl) (v := ?_) (fun _ _ _ h => h) ?_ rfl hHeld ?_; rotate_left; focus (intro w hS; skip; go_simp; try with_reducible rfl)) | (refine held_skip 14 _ rfl (by kernel_rfl) (by kernel_rfl) (by kernel_rfl) (fun _ _ _ h => h) rfl hHeld ?_)
        show wpAnyH _ _ _ _ _ _ _ { tmps := _, defers := _ } _
        try dsimp only
        try simp only [List.setIfInBounds_toArray]
        try simp only [List.set_cons_succ]
        try simp only [List.set_cons_zero]
        first | (refine held_take 15 _ rfl (by kernel_rfl) (by kernel_rfl) (by kernel_rfl) (v := ?_) (fun _ _ _ h => h) ?_ rfl hHeld ?_; rotate_left; focus (intro w hS; skip; go_simp; try with_reducible rfl)) | (refine held_skip 15 _ rfl (by kernel_rfl) (by kernel_rfl) (by kernel_rfl) (fun _ _ _ h => h) rfl hHeld ?_)
        show wpAnyH _ _ _ _ _ _ _ { tmps := _, defers := _ } _
        try dsimp only
        try simp only [List.setIfInBounds_toArray]
        try simp only [List.set_cons_succ]
        try simp only [List.set_cons_zero]
        first | (refine held_take 16 _ rfl (by kernel_rfl) (by kernel_rfl) (by kernel_rfl) (v := ?_) (fun _ _ _ h => h) ?_ rfl hHeld ?_; rotate_left; focus (intro w hS; skip; go_simp; try with_reducible rfl)) | (refine held_skip 16 _ rfl (by kernel_rfl) (by kernel_rfl) (by kernel_rfl) (fun _ _ _ h => h) rfl hHeld ?_)
        show wpAnyH _ _ _ _ _ _ _ { tmps := _, defers := _ } _
        try dsimp only
        try simp only [List.setIfInBounds_toArray]
        try simp only [List.set_cons_succ]
        try simp only [List.set_cons_zero]
        first | (refine held_take 17 _ rfl (by kernel_rfl) (by kernel_rfl) (by kernel_rfl) (v := ?_) (fun _ _ _ h => h) ?_ rfl hHeld ?_; rotate_left; focus (intro w hS; skip; go_simp; try with_reducible rfl)) | (refine held_skip 17 _ rfl (by kernel_rfl) (by kernel_rfl) (by kernel_rfl) (fun _ _ _ h => h) rfl hHeld ?_)
        show wpAnyH _ _ _ _ _ _ _ { tmps := _, defers := _ } _
        try dsimp only
        try simp only [List.setIfInBounds_toArray]
        try simp only [List.set_cons_succ]
        try simp only [List.set_cons_zero]
        first | (refine held_take 18 _ rfl (by kernel_rfl) (by kernel_rfl) (by kernel_rfl) (v := ?_) (fun _ _ _ h => h) ?_ rfl hHeld ?_; rotate_left; focus (intro w hS; skip; go_simp; try with_reducible rfl)) | (refine held_skip 18 _ rfl (by kernel_rfl) (by kernel_rfl) (by kernel_rfl) (fun _ _ _ h => h) rfl hHeld ?_)
        show wpAnyH _ _ _ _ _ _ _ { tmps := _, defers := _ } _
        try dsimp only
        try simp only [List.setIfInBounds_toArray]
        try simp only [List.set_cons_succ]
        try simp only [List.set_cons_zero]
        first | (refine held_take 19 _ rfl (by kernel_rfl) (by kernel_rfl) (by kernel_rfl) (v := ?_) (fun _ _ _ h => h) ?_ rfl hHeld ?_; rotate_left; focus (intro w hS; skip; go_simp; try with_reducible rfl)) | (refine held_skip 19 _ rfl (by kernel_rfl) (by kernel_rfl) (by kernel_rfl) (fun _ _ _ h => h) rfl hHeld ?_)
        show wpAnyH _ _ _ _ _ _ _ { tmps := _, defers := _ } _
        try dsimp only
        try simp only [List.setIfInBounds_toArray]
        try simp only [List.set_cons_succ]
        try simp only [List.set_cons_zero]
        first | (refine held_take 20 _ rfl (by kernel_rfl) (by kernel_rfl) (by kernel_rfl) (v := ?_) (fun _ _ _ h => h) ?_ rfl hHeld ?_; rotate_left; focus (intro w hS; skip; go_simp; try with_reducible rfl)) | (refine held_skip 20 _ rfl (by kernel_rfl) (by kernel_rfl) (by kernel_rfl) (fun _ _ _ h => h) rfl hHeld ?_)
        show wpAnyH _ _ _ _ _ _ _ { tmps := _, defers := _ } _
        try dsimp only
        try simp only [List.setIfInBounds_toArray]
        try simp only [List.set_cons_succ]
        try simp only [List.set_cons_zero]
        first | (refine held_take 21 _ rfl (by kernel_rfl) (by kernel_rfl) (by kernel_rfl) (v := ?_) (fun _ _ _ h => h) ?_ rfl hHeld ?_; rotate_left; focus (intro w hS; skip; go_simp; try with_reducible rfl)) | (refine held_skip 21 _ rfl (by kernel_rfl) (by kernel_rfl) (by kernel_rfl) (fun _ _ _ h => h) rfl hHeld ?_)
        show wpAnyH _ _ _ _ _ _ _ { tmps := _, defers := _ } _
        try dsimp only
        try simp only [List.setIfInBounds_toArray]
        try simp only [List.set_cons_succ]
        try simp only [List.set_cons_zero]
        first | (refine held_take 22 _ rfl (by kernel_rfl) (by kernel_rfl) (by kernel_rfl) (v := ?_) (fun _ _ _ h => h) ?_ rfl hHeld ?_; rotate_left; focus (intro w hS; skip; go_simp; try with_reducible rfl)) | (refine held_skip 22 _ rfl (by kernel_rfl) (by kernel_rfl) (by kernel_rfl) (fun _ _ _ h => h) rfl hHeld ?_)
        show wpAnyH _ _ _ _ _ _ _ { tmps := _, defers := _ } _
        try dsimp only
        try simp only [List.setIfInBounds_toArray]
        try simp only [List.set_cons_succ]
        try simp only [List.set_cons_zero]
        first | (refine held_take 23 _ rfl (by kernel_rfl) (by kernel_rfl) (by kernel_rfl) (v := ?_) (fun _ _ _ h => h) ?_ rfl hHeld ?_; rotate_left; focus (intro w hS; skip; go_simp; try with_reducible rfl)) | (refine held_skip 23 _ rfl (by kernel_rfl) (by kernel_rfl) (by kernel_rfl) (fun _ _ _ h => h) rfl hHeld ?_)
        show wpAnyH _ _ _ _ _ _ _ { tmps := _, defers := _ } _
        try dsimp only
        try simp only [List.setIfInBounds_toArray]
        try simp only [List.set_cons_succ]
        try simp only [List.set_cons_zero]
        first | (refine held_take 24 _ rfl (by kernel_rfl) (by kernel_rfl) (by kernel_rfl) (v := ?_) (fun _ _ _ h => h) ?_ rfl hHeld ?_; rotate_left; focus (intro w hS; skip; go_simp; try with_reducible rfl)) | (refine held_skip 24 _ rfl (by kernel_rfl) (by kernel_rfl) (by kernel_rfl) (fun _ _ _ h => h) rfl hHeld ?_)
        show wpAnyH _ _ _ _ _ _ _ { tmps := _, defers := _ } _
        try dsimp only
        try simp only [List.setIfInBounds_toArray]
        try simp only [List.set_cons_succ]
        try simp only [List.set_cons_zero]
        first | (refine held_take 25 _ rfl (by kernel_rfl) (by kernel_rfl) (by kernel_rfl) (v := ?_) (fun _ _ _ h => h) ?_ rfl hHeld ?_; rotate_left; focus (intro w hS; skip; go_simp; try with_reducible rfl)) | (refine held_skip 25 _ rfl (by kernel_rfl) (by kernel_rfl) (by kernel_rfl) (fun _ _ _ h => h) rfl hHeld ?_)
        show wpAnyH _ _ _ _ _ _ _ { tmps := _, defers := _ } _
        try dsimp only
        try simp only [List.setIfInBounds_toArray]
        try simp only [List.set_cons_succ]
        try simp only [List.set_cons_zero]
        first | (refine held_take 26 _ rfl (by kernel_rfl) (by kernel_rfl) (by kernel_rfl) (v := ?_) (fun _ _ _ h => h) ?_ rfl hHeld ?_; rotate_left; focus (intro w hS; have h := HC1.out w hS; go_simp; try with_reducible rfl)) | (refine held_skip 26 _ rfl (by kernel_rfl) (by kernel_rfl) (by kernel_rfl) (fun _ _ _ h => h) rfl hHeld ?_)
        show wpAnyH _ _ _ _ _ _ _ { tmps := _, defers := _ } _
        try dsimp only
        try simp only [List.setIfInBounds_toArray]
        try simp only [List.set_cons_succ]
        try simp only [List.set_cons_zero]
        first | (refine held_take 27 _ rfl (by kernel_rfl) (by kernel_rfl) (by kernel_rfl) (v := ?_) (fun _ _ _ h => h) ?_ rfl hHeld ?_; rotate_left; focus (intro w hS; have h := HX1.out w hS; go_simp; try with_reducible rfl)) | (refine held_skip 27 _ rfl (by kernel_rfl) (by kernel_rfl) (by kernel_rfl) (fun _ _ _ h => h) rfl hHeld ?_)
        show wpAnyH _ _ _ _ _ _ _ { tmps := _, defers := _ } _
        try dsimp only
        try simp only [List.setIfInBounds_toArray]
        try simp only [List.set_cons_succ]
        try simp only [List.set_cons_zero]
        first | (refine held_take 28 _ rfl (by kernel_rfl) (by kernel_rfl) (by kernel_rfl) (v := ?_) (fun _ _ _ h => h) ?_ rfl hHeld ?_; rotate_left; focus (intro w hS; skip; go_simp; try with_reducible rfl)) | (refine held_skip 28 _ rfl (by kernel_rfl) (by kernel_rfl) (by kernel_rfl) (fun _ _ _ h => h) rfl hHeld ?_)
        show wpAnyH _ _ _ _ _ _ _ { tmps := _, defers := _ } _
        try dsimp only
        try simp only [List.setIfInBounds_toArray]
        try simp only [List.set_cons_succ]
        try simp only [List.set_cons_zero]
        first | (refine held_take 29 _ rfl (by kernel_rfl) (by kernel_rfl) (by kernel_rfl) (v := ?_) (fun _ _ _ h => h) ?_ rfl hHeld ?_; rotate_left; focus (intro w hS; skip; go_simp; try with_reducible rfl)) | (refine held_skip 29 _ rfl (by kernel_rfl) (by kernel_rfl) (by kernel_rfl) (fun _ _ _ h => h) rfl hHeld ?_)
        show wpAnyH _ _ _ _ _ _ _ { tmps := _, defers := _ } _
        try dsimp only
        try simp only [List.setIfInBounds_toArray]
        try simp only [List.set_cons_succ]
        try simp only [List.set_cons_zero]
        first | (refine held_take 30 _ rfl (by kernel_rfl) (by kernel_rfl) (by kernel_rfl) (v := ?_) (fun _ _ _ h => h) ?_ rfl hHeld ?_; rotate_left; focus (intro w hS; skip; go_simp; try with_reducible rfl)) | (refine held_skip 30 _ rfl (by kernel_rfl) (by kernel_rfl) (by kernel_rfl) (fun _ _ _ h => h) rfl hHeld ?_)
        show wpAnyH _ _ _ _ _ _ _ { tmps := _, defers := _ } _
        try dsimp only
        try simp only [List.setIfInBounds_toArray]
        try simp only [List.set_cons_succ]
        try simp only [List.set_cons_zero]
        refine wpAnyH_done (by kernel_rfl) ?_ _
        have HF := Lib.hid (HSb.out _ hHeld)
        clear hHeld
        go_wp2_with fail
        go_roundw
        case rel => exact ⟨i + 1, by go_num, hlt, HF⟩
        case measure => simp [RowKit.intOf]; omega
    · obtain rfl : z = i := by omega
      have hd : decide ((z : Int) < (z : Int)) = false := decide_eq_false (by omega)
      clear hlt hi hz
      go_wp2_with fail
      go_ret
      exact ⟨rfl, hb.out⟩
end Go.Proofs.YtjjahcidncnogaaDoor
