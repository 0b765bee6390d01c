/- The walk of the law WideRing: it returns true at every input. -/
import Derived.Test.YtjppdlgeigocgaaDoorWakes
import Derived.Test.YtjppdlgeigocgaaDoorRingArith
import Derived.Shelf.Bits.Mul64
namespace Go.Proofs.YtjppdlgeigocgaaDoor
open Go.RowKit Go.Lib Go.Shelf

/-- The world under a name, with what is known of it. -/
theorem post_gen {Q : Exit → Act → World → Prop} {e : Exit} {a : Act} {w : World} (F : World → Prop) (hF : F w) (h : ∀ W, F W → Q e a W) : Q e a w := h w hF

theorem plo_nat (x : Nat) : ∃ a : Nat, a < 18446744073709551616 ∧ plo x = a := ⟨x % 18446744073709551616, Nat.mod_lt _ (by decide), rfl⟩
theorem kept {W w' : World} {b o : Nat} {v : Value} (h : Below W.heap.size W w') (hc : W.cell? ⟨b, o, none⟩ = some v) : w'.cell? ⟨b, o, none⟩ = some v := (h.cell (p := ⟨b, o, none⟩) (cell_lt hc)).trans hc

theorem code_gen {P : Program} {c : Code} {Q : Exit → Act → World → Prop} {a : Act} {w : World} (F : World → Prop) (hF : F w) (h : ∀ W, F W → c.wp P Q a W) : c.wp P Q a w := h w hF

set_option maxHeartbeats 8000000 in
set_option maxRecDepth 20000 in
theorem ring_walk (x y : Nat) (hx : x < 340282366920938463463374607431768211456) (hy : y < 340282366920938463463374607431768211456) (n : Int) (hn : -9223372036854775808 ≤ n) (hn' : n ≤ 9223372036854775807) (w : World) :
    Calls Tryd.prog 11 #[.agg #[.int .u64 (phi x), .int .u64 (plo x), .int .u64 (phi y), .int .u64 (plo y), .int .i64 n]] w fun e w' => e = .returned (.bool true) ∧ Below w.heap.size w w' := by
  obtain ⟨b, hb⟩ : ∃ b, decide (340282366920938463463374607431768211456 ≤ x + y) = b := ⟨_, rfl⟩
  have F0 := Lib.hid hb
  have F1 := Lib.hid (ring_back x y hx hy)
  have F2 := Lib.hid ((ring_under x y hx hy).trans hb)
  have F3 := Lib.hid ((ring_cmp x y hx hy).trans hb)
  have F4 := Lib.hid (ring_twice x)
  have F5 := Lib.hid (ring_shl x n)
  have F6 : decide (0 < ord (x / 2 ^ n.toNat) x) = false := decide_eq_false (Int.not_lt.2 (ring_shr x n.toNat))
  have F7 := Lib.hid (ord_neg x y)
  have F8 := ord_lo y x
  have F9 := ord_hi y x
  have G1 : IntKind.i64.wrap (-ord y x) = -ord y x := by rw [IntKind.wrap_i64]; omega
  have G2 : wrap64 (-ord y x) = -ord y x := by unfold wrap64; omega
  clear hb
  go_enter Tryd.func11, Tryd.ntmps11
  go_wp2
  go_region_held3 (fun w' => w'.cell? ⟨w.heap.size, 0, none⟩ = some (.int .u64 (phi x)) ∧ w'.cell? ⟨w.heap.size, 1, none⟩ = some (.int .u64 (plo x)) ∧ w'.cell? ⟨w.heap.size, 2, none⟩ = some (.int .u64 (phi y)) ∧ w'.cell? ⟨w.heap.size, 3, none⟩ = some (.int .u64 (plo y)) ∧ w'.cell? ⟨w.heap.size, 4, none⟩ = some (.int .i64 n)) (simp [go_sem, World.cell?_alloc_past]) (fail)
  · rename_i hh
    clear hh
    refine post_gen (fun W => Below w.heap.size w W ∧ W.heap.size = w.heap.size + 1 + 1 + 1 ∧ W.cell? ⟨w.heap.size + 1, 0, none⟩ = some (.int .u64 (phi x)) ∧ W.cell? ⟨w.heap.size + 1, 1, none⟩ = some (.int .u64 (plo x)) ∧ W.cell? ⟨w.heap.size + 1 + 1, 0, none⟩ = some (.int .u64 (phi y)) ∧ W.cell? ⟨w.heap.size + 1 + 1, 1, none⟩ = some (.int .u64 (plo y))) ⟨by go_grown, by simp, by simp [go_sem, World.cell?_alloc_past], by simp [go_sem, World.cell?_alloc_past], by simp [go_sem, World.cell?_alloc_past], by simp [go_sem, World.cell?_alloc_past]⟩ ?_
    rintro W ⟨hB, hz, c1, c2, c3, c4⟩
    have HB := Lib.hid hB
    clear hB
    go_wp2_with fail
    refine (pairAdd_any x y hx hy _).mono ?_
    rintro e w1 ⟨rfl, o1, o2, o3, rfl⟩
    rw [F0.out]
    unfold par
    go_wp2_with fail
    refine (pairSub_any _ y (Nat.mod_lt _ (by decide)) hy _).mono ?_
    rintro e w1 ⟨rfl, o4, o5, o6, rfl⟩
    rw [F1.out, F2.out]
    unfold par
    go_wp2_with fail
    refine (pairCmp_any _ x _).mono ?_
    rintro e w1 ⟨rfl, o7, o8, rfl⟩
    have f3 := F3.out
    clear F3
    generalize ord ((x + y) % 340282366920938463463374607431768211456) x = c at *
    go_wp2_with fail
    clear f3
    refine (pairAdd_any x x hx hx _).mono ?_
    rintro e w1 ⟨rfl, o9, o10, o11, rfl⟩
    unfold par
    go_wp2_with fail
    refine code_gen (fun W => Below w.heap.size w W ∧ W.heap.size = w.heap.size + 1 + 1 + 1 + 1 + 1 + 1 + 1 + 1 + 1 + 1 + 1 + 1 + 1 + 1 + 1 + 1 + 1 ∧ W.cell? ⟨w.heap.size + 1, 0, none⟩ = some (.int .u64 (phi x)) ∧ W.cell? ⟨w.heap.size + 1, 1, none⟩ = some (.int .u64 (plo x)) ∧ W.cell? ⟨w.heap.size + 1 + 1, 0, none⟩ = some (.int .u64 (phi y)) ∧ W.cell? ⟨w.heap.size + 1 + 1, 1, none⟩ = some (.int .u64 (plo y)) ∧ W.cell? ⟨w.heap.size + 1 + 1 + 1 + 1 + 1 + 1 + 1 + 1 + 1 + 1 + 1 + 1 + 1 + 1 + 1 + 1, 0, none⟩ = some (.int .u64 (phi ((x + x) % 340282366920938463463374607431768211456))) ∧ W.cell? ⟨w.heap.size + 1 + 1 + 1 + 1 + 1 + 1 + 1 + 1 + 1 + 1 + 1 + 1 + 1 + 1 + 1 + 1, 1, none⟩ = some (.int .u64 (plo ((x + x) % 340282366920938463463374607431768211456)))) ⟨?_, by simp [hz], by simp [go_sem, World.cell?_alloc_past, hz, c1, c2, c3, c4], by simp [go_sem, World.cell?_alloc_past, hz, c1, c2, c3, c4], by simp [go_sem, World.cell?_alloc_past, hz, c1, c2, c3, c4], by simp [go_sem, World.cell?_alloc_past, hz, c1, c2, c3, c4], by simp [go_sem, World.cell?_alloc_past, hz, c1, c2, c3, c4], by simp [go_sem, World.cell?_alloc_past, hz, c1, c2, c3, c4]⟩ ?_
    · have h0 := HB.out
      have h1 := h0.size
      go_grown
    rintro W2 ⟨hB2, hz2, d1, d2, d3, d4, d5, d6⟩
    have HB2 := Lib.hid hB2
    clear hB2 HB hz c1 c2 c3 c4
    go_region_held3 (fun W => W.cell? ⟨w.heap.size + 1, 0, none⟩ = some (.int .u64 (phi x)) ∧ W.cell? ⟨w.heap.size + 1, 1, none⟩ = some (.int .u64 (plo x)) ∧ W.cell? ⟨w.heap.size + 1 + 1, 0, none⟩ = some (.int .u64 (phi y)) ∧ W.cell? ⟨w.heap.size + 1 + 1, 1, none⟩ = some (.int .u64 (plo y)) ∧ W.cell? ⟨w.heap.size + 1 + 1 + 1 + 1 + 1 + 1 + 1 + 1 + 1 + 1 + 1 + 1 + 1 + 1 + 1 + 1, 0, none⟩ = some (.int .u64 (phi ((x + x) % 340282366920938463463374607431768211456))) ∧ W.cell? ⟨w.heap.size + 1 + 1 + 1 + 1 + 1 + 1 + 1 + 1 + 1 + 1 + 1 + 1 + 1 + 1 + 1 + 1, 1, none⟩ = some (.int .u64 (plo ((x + x) % 340282366920938463463374607431768211456)))) (simp [go_sem, World.cell?_alloc_past, hz2, d1, d2, d3, d4, d5, d6])
      (first
        | (go_at_call 18; refine (pairShl_any _ (by first | exact hx | exact Nat.mod_lt _ (by decide)) _ (by omega) (by omega) _).mono ?_; rintro e w' ⟨rfl, p1, p2, rfl⟩; unfold par; try simp only [F4.out, F5.out])
        | (go_at_call 20; refine (pairShr_any x hx n hn hn' _).mono ?_; rintro e w' ⟨rfl, p1, p2, rfl⟩; unfold par)
        | (go_at_call 22; refine (pairCmp_any _ _ _).mono ?_; rintro e w' ⟨rfl, p1, p2, rfl⟩; try rw [F7.out]))
    rename_i hh
    clear hh
    go_wp2_with fail
    clear d1 d2 d3 d4 d5 d6 F0 F1 F2 F4 F5 F6 F7 F8 F9 G1 G2
    obtain ⟨a, ha, ea⟩ := plo_nat x
    obtain ⟨b', hb', eb⟩ := plo_nat y
    simp only [ea, eb]
    have H1 := Lib.hid (ring_parts a b' ha hb').1
    have H2 := Lib.hid (ring_parts a b' ha hb').2
    have H3 := Lib.hid (Nat.mul_comm b' a)
    have H4 : Hid (((b' : Int) / 4294967296).toNat = b' / 4294967296) := by show _ = _; omega
    have H5 := Mul64.maskN b' hb'
    have H6 : Hid (((b' : Int) % 4294967296).toNat = b' % 4294967296) := by show _ = _; omega
    clear ea eb
    refine (mulWords_any _ _ (by omega) (by omega) (by omega) (by omega) _).mono ?_
    rintro e w' ⟨rfl, q1, rfl⟩
    rw [Int.toNat_natCast, Int.toNat_natCast]
    unfold par
    go_wp2_with fail
    refine (mulWords_any _ _ (by omega) (by omega) (by omega) (by omega) _).mono ?_
    rintro e w' ⟨rfl, q2, rfl⟩
    rw [Int.toNat_natCast, Int.toNat_natCast, H3.out]
    unfold par
    go_wp2_with fail
    refine (mulWords_any _ _ (by omega) (by omega) (by omega) (by omega) _).mono ?_
    rintro e w' ⟨rfl, q3, rfl⟩
    rw [Int.toNat_natCast, H4.out]
    unfold par
    go_wp2_with fail
    refine (pairShl_any _ (ring_bd a b' ha hb') _ (by omega) (by omega) _).mono ?_
    rintro e w' ⟨rfl, q4, q5, rfl⟩
    unfold par
    go_wp2_with fail
    refine (mulWords_any _ _ (by omega) (by omega) (by omega) (by omega) _).mono ?_
    rintro e w' ⟨rfl, q6, rfl⟩
    rw [Int.toNat_natCast, H6.out]
    unfold par
    go_wp2_with fail
    refine (pairAdd_any _ _ (Nat.mod_lt _ (by decide)) (ring_bd' a b' ha hb') _).mono ?_
    rintro e w' ⟨rfl, q7, q8, q9, rfl⟩
    rw [H1.out, H2.out]
    unfold par
    go_wp2_with fail
    refine code_gen (fun W => Below w.heap.size w W ∧ W.heap.size = w.heap.size + 1 + 1 + 1 + 1 + 1 + 1 + 1 + 1 + 1 + 1 + 1 + 1 + 1 + 1 + 1 + 1 + 1 + 1 + 1 + 1 + 1 + 1 + 1 + 1 + 1 + 1 + 1 + 1 + 1 + 1 + 1 + 1 + 1 + 1 + 1 + 1 + 1 + 1 + 1 + 1 + 1 + 1 + 1 + 1 + 1 + 1 + 1 ∧ W.cell? ⟨w.heap.size + 1 + 1 + 1 + 1 + 1 + 1 + 1 + 1 + 1 + 1 + 1 + 1 + 1 + 1 + 1 + 1 + 1 + 1 + 1 + 1 + 1 + 1 + 1 + 1 + 1 + 1 + 1 + 1 + 1 + 1 + 1 + 1 + 1 + 1 + 1 + 1 + 1 + 1 + 1 + 1 + 1 + 1 + 1 + 1 + 1 + 1, 0, none⟩ = some (.int .u64 (phi (a * b'))) ∧ W.cell? ⟨w.heap.size + 1 + 1 + 1 + 1 + 1 + 1 + 1 + 1 + 1 + 1 + 1 + 1 + 1 + 1 + 1 + 1 + 1 + 1 + 1 + 1 + 1 + 1 + 1 + 1 + 1 + 1 + 1 + 1 + 1 + 1 + 1 + 1 + 1 + 1 + 1 + 1 + 1 + 1 + 1 + 1 + 1 + 1 + 1 + 1 + 1 + 1, 1, none⟩ = some (.int .u64 (plo (a * b')))) ⟨?_, by simp [hz2], by simp [go_sem, World.cell?_alloc_past, hz2], by simp [go_sem, World.cell?_alloc_past, hz2]⟩ ?_
    · have h0 := HB2.out
      have h1 := h0.size
      go_grown
    rintro W3 ⟨hB3, hz3, d1, d2⟩
    have HB3 := Lib.hid hB3
    have hz4 := hB3.size
    clear hB3 HB2 hz2 H1 H2 H3 H4 H5 H6
    go_region_held3 (fun W => W.cell? ⟨w.heap.size + 1 + 1 + 1 + 1 + 1 + 1 + 1 + 1 + 1 + 1 + 1 + 1 + 1 + 1 + 1 + 1 + 1 + 1 + 1 + 1 + 1 + 1 + 1 + 1 + 1 + 1 + 1 + 1 + 1 + 1 + 1 + 1 + 1 + 1 + 1 + 1 + 1 + 1 + 1 + 1 + 1 + 1 + 1 + 1 + 1 + 1, 0, none⟩ = some (.int .u64 (phi (a * b'))) ∧ W.cell? ⟨w.heap.size + 1 + 1 + 1 + 1 + 1 + 1 + 1 + 1 + 1 + 1 + 1 + 1 + 1 + 1 + 1 + 1 + 1 + 1 + 1 + 1 + 1 + 1 + 1 + 1 + 1 + 1 + 1 + 1 + 1 + 1 + 1 + 1 + 1 + 1 + 1 + 1 + 1 + 1 + 1 + 1 + 1 + 1 + 1 + 1 + 1 + 1, 1, none⟩ = some (.int .u64 (plo (a * b')))) (first | (simp [go_sem, World.cell?_alloc_past, hz3, d1, d2]; done) | ((refine ⟨kept (by assumption) ?_, kept (by assumption) ?_⟩) <;> simp [go_sem, World.cell?_alloc_past, hz3, d1, d2]))
      (first
        | (go_at_call 51; refine (mulWords_any _ _ (by omega) (by omega) (by omega) (by omega) _).mono ?_; rintro e w' ⟨rfl, p1, rfl⟩; rw [Int.toNat_natCast, Int.toNat_natCast]; unfold par)
        | (go_at_call 26; refine (wakes_any _).mono ?_; rintro e w' ⟨rfl, hg⟩))
    go_wp2_with fail
    go_ret
    exact ⟨rfl, old_trans (b := (W3.alloc (.cells p1 26)).drew) ((HB3.out.alloc hz4 _).drew) hg⟩
  · rename_i hh
    clear hh
    refine post_gen (fun W => Below w.heap.size w W ∧ W.heap.size = w.heap.size + 1 + 1 + 1 ∧ W.cell? ⟨w.heap.size + 1 + 1, 0, none⟩ = some (.int .u64 (phi x)) ∧ W.cell? ⟨w.heap.size + 1 + 1, 1, none⟩ = some (.int .u64 (plo x)) ∧ W.cell? ⟨w.heap.size + 1, 0, none⟩ = some (.int .u64 (phi y)) ∧ W.cell? ⟨w.heap.size + 1, 1, none⟩ = some (.int .u64 (plo y))) ⟨by go_grown, by simp, by simp [go_sem, World.cell?_alloc_past], by simp [go_sem, World.cell?_alloc_past], by simp [go_sem, World.cell?_alloc_past], by simp [go_sem, World.cell?_alloc_past]⟩ ?_
    rintro W ⟨hB, hz, c1, c2, c3, c4⟩
    have HB := Lib.hid hB
    clear hB
    go_wp2_with fail
    refine (pairAdd_any x y hx hy _).mono ?_
    rintro e w1 ⟨rfl, o1, o2, o3, rfl⟩
    rw [F0.out]
    unfold par
    go_wp2_with fail
    refine (pairSub_any _ y (Nat.mod_lt _ (by decide)) hy _).mono ?_
    rintro e w1 ⟨rfl, o4, o5, o6, rfl⟩
    rw [F1.out, F2.out]
    unfold par
    go_wp2_with fail
    refine (pairCmp_any _ x _).mono ?_
    rintro e w1 ⟨rfl, o7, o8, rfl⟩
    have f3 := F3.out
    clear F3
    generalize ord ((x + y) % 340282366920938463463374607431768211456) x = c at *
    go_wp2_with fail
    clear f3
    refine (pairAdd_any x x hx hx _).mono ?_
    rintro e w1 ⟨rfl, o9, o10, o11, rfl⟩
    unfold par
    go_wp2_with fail
    refine code_gen (fun W => Below w.heap.size w W ∧ W.heap.size = w.heap.size + 1 + 1 + 1 + 1 + 1 + 1 + 1 + 1 + 1 + 1 + 1 + 1 + 1 + 1 + 1 + 1 + 1 ∧ W.cell? ⟨w.heap.size + 1 + 1, 0, none⟩ = some (.int .u64 (phi x)) ∧ W.cell? ⟨w.heap.size + 1 + 1, 1, none⟩ = some (.int .u64 (plo x)) ∧ W.cell? ⟨w.heap.size + 1, 0, none⟩ = some (.int .u64 (phi y)) ∧ W.cell? ⟨w.heap.size + 1, 1, none⟩ = some (.int .u64 (plo y)) ∧ W.cell? ⟨w.heap.size + 1 + 1 + 1 + 1 + 1 + 1 + 1 + 1 + 1 + 1 + 1 + 1 + 1 + 1 + 1 + 1, 0, none⟩ = some (.int .u64 (phi ((x + x) % 340282366920938463463374607431768211456))) ∧ W.cell? ⟨w.heap.size + 1 + 1 + 1 + 1 + 1 + 1 + 1 + 1 + 1 + 1 + 1 + 1 + 1 + 1 + 1 + 1, 1, none⟩ = some (.int .u64 (plo ((x + x) % 340282366920938463463374607431768211456)))) ⟨?_, by simp [hz], by simp [go_sem, World.cell?_alloc_past, hz, c1, c2, c3, c4], by simp [go_sem, World.cell?_alloc_past, hz, c1, c2, c3, c4], by simp [go_sem, World.cell?_alloc_past, hz, c1, c2, c3, c4], by simp [go_sem, World.cell?_alloc_past, hz, c1, c2, c3, c4], by simp [go_sem, World.cell?_alloc_past, hz, c1, c2, c3, c4], by simp [go_sem, World.cell?_alloc_past, hz, c1, c2, c3, c4]⟩ ?_
    · have h0 := HB.out
      have h1 := h0.size
      go_grown
    rintro W2 ⟨hB2, hz2, d1, d2, d3, d4, d5, d6⟩
    have HB2 := Lib.hid hB2
    clear hB2 HB hz c1 c2 c3 c4
    go_region_held3 (fun W => W.cell? ⟨w.heap.size + 1 + 1, 0, none⟩ = some (.int .u64 (phi x)) ∧ W.cell? ⟨w.heap.size + 1 + 1, 1, none⟩ = some (.int .u64 (plo x)) ∧ W.cell? ⟨w.heap.size + 1, 0, none⟩ = some (.int .u64 (phi y)) ∧ W.cell? ⟨w.heap.size + 1, 1, none⟩ = some (.int .u64 (plo y)) ∧ W.cell? ⟨w.heap.size + 1 + 1 + 1 + 1 + 1 + 1 + 1 + 1 + 1 + 1 + 1 + 1 + 1 + 1 + 1 + 1, 0, none⟩ = some (.int .u64 (phi ((x + x) % 340282366920938463463374607431768211456))) ∧ W.cell? ⟨w.heap.size + 1 + 1 + 1 + 1 + 1 + 1 + 1 + 1 + 1 + 1 + 1 + 1 + 1 + 1 + 1 + 1, 1, none⟩ = some (.int .u64 (plo ((x + x) % 340282366920938463463374607431768211456)))) (simp [go_sem, World.cell?_alloc_past, hz2, d1, d2, d3, d4, d5, d6])
      (first
        | (go_at_call 18; refine (pairShl_any _ (by first | exact hx | exact Nat.mod_lt _ (by decide)) _ (by omega) (by omega) _).mono ?_; rintro e w' ⟨rfl, p1, p2, rfl⟩; unfold par; try simp only [F4.out, F5.out])
        | (go_at_call 20; refine (pairShr_any x hx n hn hn' _).mono ?_; rintro e w' ⟨rfl, p1, p2, rfl⟩; unfold par)
        | (go_at_call 22; refine (pairCmp_any _ _ _).mono ?_; rintro e w' ⟨rfl, p1, p2, rfl⟩; try rw [F7.out]))
    rename_i hh
    clear hh
    go_wp2_with fail
    clear d1 d2 d3 d4 d5 d6 F0 F1 F2 F4 F5 F6 F7 F8 F9 G1 G2
    obtain ⟨a, ha, ea⟩ := plo_nat x
    obtain ⟨b', hb', eb⟩ := plo_nat y
    simp only [ea, eb]
    have H1 := Lib.hid (ring_parts a b' ha hb').1
    have H2 := Lib.hid (ring_parts a b' ha hb').2
    have H3 := Lib.hid (Nat.mul_comm b' a)
    have H4 : Hid (((b' : Int) / 4294967296).toNat = b' / 4294967296) := by show _ = _; omega
    have H5 := Mul64.maskN b' hb'
    have H6 : Hid (((b' : Int) % 4294967296).toNat = b' % 4294967296) := by show _ = _; omega
    clear ea eb
    refine (mulWords_any _ _ (by omega) (by omega) (by omega) (by omega) _).mono ?_
    rintro e w' ⟨rfl, q1, rfl⟩
    rw [Int.toNat_natCast, Int.toNat_natCast]
    unfold par
    go_wp2_with fail
    refine (mulWords_any _ _ (by omega) (by omega) (by omega) (by omega) _).mono ?_
    rintro e w' ⟨rfl, q2, rfl⟩
    rw [Int.toNat_natCast, Int.toNat_natCast, H3.out]
    unfold par
    go_wp2_with fail
    refine (mulWords_any _ _ (by omega) (by omega) (by omega) (by omega) _).mono ?_
    rintro e w' ⟨rfl, q3, rfl⟩
    rw [Int.toNat_natCast, H4.out]
    unfold par
    go_wp2_with fail
    refine (pairShl_any _ (ring_bd a b' ha hb') _ (by omega) (by omega) _).mono ?_
    rintro e w' ⟨rfl, q4, q5, rfl⟩
    unfold par
    go_wp2_with fail
    refine (mulWords_any _ _ (by omega) (by omega) (by omega) (by omega) _).mono ?_
    rintro e w' ⟨rfl, q6, rfl⟩
    rw [Int.toNat_natCast, H6.out]
    unfold par
    go_wp2_with fail
    refine (pairAdd_any _ _ (Nat.mod_lt _ (by decide)) (ring_bd' a b' ha hb') _).mono ?_
    rintro e w' ⟨rfl, q7, q8, q9, rfl⟩
    rw [H1.out, H2.out]
    unfold par
    go_wp2_with fail
    refine code_gen (fun W => Below w.heap.size w W ∧ W.heap.size = w.heap.size + 1 + 1 + 1 + 1 + 1 + 1 + 1 + 1 + 1 + 1 + 1 + 1 + 1 + 1 + 1 + 1 + 1 + 1 + 1 + 1 + 1 + 1 + 1 + 1 + 1 + 1 + 1 + 1 + 1 + 1 + 1 + 1 + 1 + 1 + 1 + 1 + 1 + 1 + 1 + 1 + 1 + 1 + 1 + 1 + 1 + 1 + 1 ∧ W.cell? ⟨w.heap.size + 1 + 1 + 1 + 1 + 1 + 1 + 1 + 1 + 1 + 1 + 1 + 1 + 1 + 1 + 1 + 1 + 1 + 1 + 1 + 1 + 1 + 1 + 1 + 1 + 1 + 1 + 1 + 1 + 1 + 1 + 1 + 1 + 1 + 1 + 1 + 1 + 1 + 1 + 1 + 1 + 1 + 1 + 1 + 1 + 1 + 1, 0, none⟩ = some (.int .u64 (phi (a * b'))) ∧ W.cell? ⟨w.heap.size + 1 + 1 + 1 + 1 + 1 + 1 + 1 + 1 + 1 + 1 + 1 + 1 + 1 + 1 + 1 + 1 + 1 + 1 + 1 + 1 + 1 + 1 + 1 + 1 + 1 + 1 + 1 + 1 + 1 + 1 + 1 + 1 + 1 + 1 + 1 + 1 + 1 + 1 + 1 + 1 + 1 + 1 + 1 + 1 + 1 + 1, 1, none⟩ = some (.int .u64 (plo (a * b')))) ⟨?_, by simp [hz2], by simp [go_sem, World.cell?_alloc_past, hz2], by simp [go_sem, World.cell?_alloc_past, hz2]⟩ ?_
    · have h0 := HB2.out
      have h1 := h0.size
      go_grown
    rintro W3 ⟨hB3, hz3, d1, d2⟩
    have HB3 := Lib.hid hB3
    have hz4 := hB3.size
    clear hB3 HB2 hz2 H1 H2 H3 H4 H5 H6
    go_region_held3 (fun W => W.cell? ⟨w.heap.size + 1 + 1 + 1 + 1 + 1 + 1 + 1 + 1 + 1 + 1 + 1 + 1 + 1 + 1 + 1 + 1 + 1 + 1 + 1 + 1 + 1 + 1 + 1 + 1 + 1 + 1 + 1 + 1 + 1 + 1 + 1 + 1 + 1 + 1 + 1 + 1 + 1 + 1 + 1 + 1 + 1 + 1 + 1 + 1 + 1 + 1, 0, none⟩ = some (.int .u64 (phi (a * b'))) ∧ W.cell? ⟨w.heap.size + 1 + 1 + 1 + 1 + 1 + 1 + 1 + 1 + 1 + 1 + 1 + 1 + 1 + 1 + 1 + 1 + 1 + 1 + 1 + 1 + 1 + 1 + 1 + 1 + 1 + 1 + 1 + 1 + 1 + 1 + 1 + 1 + 1 + 1 + 1 + 1 + 1 + 1 + 1 + 1 + 1 + 1 + 1 + 1 + 1 + 1, 1, none⟩ = some (.int .u64 (plo (a * b')))) (first | (simp [go_sem, World.cell?_alloc_past, hz3, d1, d2]; done) | ((refine ⟨kept (by assumption) ?_, kept (by assumption) ?_⟩) <;> simp [go_sem, World.cell?_alloc_past, hz3, d1, d2]))
      (first
        | (go_at_call 51; refine (mulWords_any _ _ (by omega) (by omega) (by omega) (by omega) _).mono ?_; rintro e w' ⟨rfl, p1, rfl⟩; rw [Int.toNat_natCast, Int.toNat_natCast]; unfold par)
        | (go_at_call 26; refine (wakes_any _).mono ?_; rintro e w' ⟨rfl, hg⟩))
    go_wp2_with fail
    go_ret
    exact ⟨rfl, old_trans (b := (W3.alloc (.cells p1 26)).drew) ((HB3.out.alloc hz4 _).drew) hg⟩
end Go.Proofs.YtjppdlgeigocgaaDoor
