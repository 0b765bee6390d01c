/- What is lent, and kept: contracts. -/
import Derived.Test.YtjjahcidncnogaaDoorShaFreshA
namespace Go.Proofs.YtjjahcidncnogaaDoor
open Go.ChangeShapes Go.WideShapes Go.ChangeAt Go.RowKit Go.Lib

theorem xor_zero_iff (x y : Nat) : x ^^^ y = 0 ↔ x = y := by
  constructor
  · intro h
    have h2 : (x ^^^ y) ^^^ y = 0 ^^^ y := by rw [h]
    rwa [Nat.xor_assoc, Nat.xor_self, Nat.xor_zero, Nat.zero_xor] at h2
  · rintro rfl
    exact Nat.xor_self x
/-- What was lent stands: its bytes, and seventy marks behind them. -/
def marks (l : List UInt8) (k : Nat) : List UInt8 := l ++ List.replicate k 165
structure Lent (w : World) (g cap : Nat) (l : List UInt8) : Prop where
  fit : l.length + 70 ≤ cap
  block : ∃ cur, w.heap[g]? = some (.cells cur 5 (0, 0))
  cells : ∀ j, (hj : j < (marks l 70).length) → w.cell? ⟨g, j, none⟩ = some (.int .u8 ((marks l 70)[j].toNat : Nat))
theorem Lent.below {w w' : World} {g cap : Nat} {l : List UInt8} (h : Lent w g cap l) (hb : Below w.heap.size w w') : Lent w' g cap l := by
  obtain ⟨cur, hc⟩ := h.block
  have hlt := (Array.getElem?_eq_some_iff.1 hc).1
  exact ⟨h.fit, ⟨cur, (hb.block g hlt).trans hc⟩, fun j hj => (hb.cell (p := ⟨g, j, none⟩) hlt).trans (h.cells j hj)⟩
theorem Lent.bytes {w : World} {g cap : Nat} {l : List UInt8} (h : Lent w g cap l) : Bytes w.heap.size w.heap.size (some ⟨g, 0, none⟩) l w := fun _ => by
  obtain ⟨cur, hc⟩ := h.block
  have hlt := (Array.getElem?_eq_some_iff.1 hc).1
  refine ⟨g, 0, rfl, hlt, by omega, fun j hj => ?_⟩
  rw [Nat.zero_add, h.cells j (by unfold marks; rw [List.length_append]; omega)]
  congr 3
  unfold marks
  rw [List.getElem_append_left hj]
theorem marks_get (l : List UInt8) (k j : Nat) (h : l.length ≤ j) (h2 : j < (marks l k).length) : (marks l k)[j] = 165 := by
  have h3 : (marks l k)[j]? = some 165 := by
    unfold marks at h2 ⊢
    rw [List.length_append, List.length_replicate] at h2
    rw [List.getElem?_append_right h, List.getElem?_replicate, if_pos (by omega)]
  rw [List.getElem?_eq_getElem h2] at h3
  exact Option.some.inj h3
theorem marks_length (l : List UInt8) (k : Nat) : (marks l k).length = l.length + k := by unfold marks; rw [List.length_append, List.length_replicate]
set_option maxRecDepth 100000 in
set_option maxHeartbeats 8000000 in
theorem lent_any (a : Option Addr) (c : Nat) (l : List UInt8) (w : World) (hn : a = none → l = [] ∧ c = 0) (hB : Bytes w.heap.size w.heap.size a l w) (hm : l.length ≤ 140737488351232) :
    Calls Tryd.prog 28 #[.slice a l.length c] w fun e w' => ∃ g cap, e = .returned (.slice (some ⟨g, 0, none⟩) l.length cap) ∧ w.heap.size ≤ g ∧ Lent w' g cap l ∧ Below w.heap.size w w' := by
  obtain ⟨n, hnn⟩ : ∃ n, l.length = n := ⟨_, rfl⟩
  have HL := Lib.hid hnn
  rw [hnn] at hm ⊢
  have HM := Lib.hid hm
  have HN : Hid (a = none → n = 0 ∧ c = 0) := Lib.hid (fun e => by have h := hn e; rw [← hnn, h.1]; exact ⟨rfl, h.2⟩)
  obtain ⟨i0, hi, hz0, hz1, hz2⟩ := info_parts infoByte
  obtain ⟨w1, hmk, ho1, hg1⟩ := run_make_own (P := Tryd.prog) w w.heap.size 28 5 i0 (.int .u8 0) 1 Tryd.underlying28 hi hz0 hz1 .i64 .i64 (n + 70) (by rw [hz2]; omega) (by unfold maxLen; omega) (Nat.le_refl _)
  have e70 : ((n + 70 : Nat) : Int) = (n : Int) + 70 := by omega
  rw [e70] at hmk
  have hw70 : IntKind.i64.wrap ((n : Int) + 70) = (n : Int) + 70 := by rw [IntKind.wrap_i64]; omega
  have HO1 := Lib.hid ho1
  have HG1 : Hid (Below w.heap.size w w1) := Lib.hid ((Below.refl _ w).grown hg1 (Nat.le_refl _) (fun k hk => by cases hk))
  have HB1 : Hid (Bytes w1.heap.size w1.heap.size a l w1) := Lib.hid ((hB.keep HG1.out).at HG1.out.size HG1.out.size)
  clear hm hB hn hnn ho1 hg1 e70 hi hz0 hz1 hz2
  go_enter Tryd.func28, Tryd.ntmps28
  go_wp2_with (refine wpList_append_piece rfl (.tmp 9) (.tmp 10) rfl w.heap.size _ 0 [] rfl HO1.out a n c n l rfl HL.out HN.out _ _ HB1.out (by omega) (by have := HM.out; omega) HG1.out.size ?_)
  intro q2 k2 w2 ho2 hg2
  have HX : Hid (∃ (i : Nat) (q : Option Addr) (cq : Nat), Value.slice q2 n k2 = .slice q (n + i) cq ∧ Value.int .i64 0 = .int .i64 (i : Int) ∧ i ≤ 70 ∧ Hid (w2.ownsRow w.heap.size 5 1 (.slice q (n + i) cq) (n + i) (Go.Lib.byteCells (marks l i))) ∧ Hid (Below w.heap.size w w2)) := Lib.hid
    ⟨0, q2, k2, rfl, rfl, by decide, Lib.hid (by unfold marks; rw [List.replicate_zero, List.append_nil]; exact ho2), Lib.hid (HG1.out.grown hg2 HG1.out.size (fun k hk => by simp [Value.ownBlock] at hk; omega))⟩
  clear ho2 hg2 hmk hw70
  go_wp2_with fail
  go_loopw [3, 4] (fun s v wr => ∃ (i : Nat) (q : Option Addr) (cq : Nat), s = .slice q (n + i) cq ∧ v = .int .i64 (i : Int) ∧ i ≤ 70 ∧ Hid (wr.ownsRow w.heap.size 5 1 (.slice q (n + i) cq) (n + i) (Go.Lib.byteCells (marks l i))) ∧ Hid (Below w.heap.size w wr)) (fun _ v _ => 70 - (RowKit.intOf v).toNat)
  case atStart => exact HX.out
  case round =>
    clear HX
    obtain ⟨i, q, cq, rfl, rfl, h70, ho, hb⟩ := hrel
    by_cases hlt : i < 70
    · obtain ⟨m, hm⟩ : ∃ m, n + i = m := ⟨_, rfl⟩
      have HMM := Lib.hid hm
      have hd : decide ((i : Int) < 70) = true := decide_eq_true (by omega)
      have hti : (i : Int) < 70 := by omega
      have HO2 := Lib.hid (ho.out.alloc (.cells (Go.Lib.byteCells [165]).toArray 5))
      have HL0 := Lib.hid (lit_bytes wr [165])
      have HG0 : Hid (Below w.heap.size w (wr.alloc (.cells (Go.Lib.byteCells [165]).toArray 5))) := Lib.hid (hb.out.alloc hb.out.size _)
      rw [hm] at HO2 ⊢
      clear ho hb
      go_wp2_with (refine wpList_append_piece rfl (.tmp 16) (.tmp 17) rfl w.heap.size _ m (marks l i) rfl HO2.out (some ⟨wr.heap.size, 0, none⟩) 1 1 (m + 1) [165] rfl rfl (fun h => by cases h) _ _ HL0.out rfl (by have := HM.out; omega) HG0.out.size ?_)
      intro q4 k4 w4 ho4 hg4
      have HO4 : Hid (w4.ownsRow w.heap.size 5 1 (.slice q4 (n + (i + 1)) k4) (n + (i + 1)) (Go.Lib.byteCells (marks l (i + 1)))) := Lib.hid (by
        have h := ho4
        unfold marks at h ⊢
        rw [show n + (i + 1) = m + 1 by omega, List.replicate_succ']
        first | exact h | (rw [← List.append_assoc]; exact h))
      have HG4 : Hid (Below w.heap.size w w4) := Lib.hid (HG0.out.grown hg4 HG0.out.size (fun k hk => (HO2.out.lt k hk).1))
      clear ho4 hg4
      go_wp2_with fail
      go_roundw
      case rel => exact ⟨i + 1, q4, k4, by rw [show n + (i + 1) = m + 1 by have := HMM.out; omega], by go_num, hlt, HO4, HG4⟩
      case measure => simp [RowKit.intOf]; omega
    · obtain rfl : i = 70 := by omega
      obtain ⟨g, cur, rfl, hga, hgb, hgc, hgd, hge⟩ := owns_some ho.out (by rw [marks_length, HL.out]) (by omega)
      have HLent : Hid (Lent wr g cq l) := Lib.hid ⟨by rw [HL.out]; exact hgc, ⟨cur, hgd⟩, hge⟩
      have HGa := Lib.hid hga
      have hcut := fun w => slice_cut g (n + 70) cq n (by omega) (by omega) w
      have HGf := hb
      clear ho hb hga hgb hgc hgd hge hlt h70
      rw [show ((70 : Nat) : Int) = 70 from rfl]
      go_wp2_with fail
      go_ret
      exact ⟨g, cq, rfl, HGa.out, HLent.out, HGf.out⟩
set_option maxRecDepth 100000 in
set_option maxHeartbeats 8000000 in
theorem kept_any (g cap : Nat) (a : Option Addr) (c : Nat) (l : List UInt8) (w : World) (hn : a = none → l = []) (hB : Bytes w.heap.size w.heap.size a l w) (hm : l.length ≤ 140737488351232) (hL : Lent w g cap l) :
    Calls Tryd.prog 33 #[.slice (some ⟨g, 0, none⟩) l.length cap, .slice a l.length c] w fun e w' => e = .returned (.bool true) ∧ w' = w := by
  have ht1 := bytes_text cap hL.bytes (fun e => by cases e)
  have ht2 := bytes_text c hB hn
  have HLt := Lib.hid hL
  obtain ⟨n, hnn⟩ : ∃ n, l.length = n := ⟨_, rfl⟩
  have HL := Lib.hid hnn
  obtain ⟨s, hs⟩ : ∃ s : ByteArray, (⟨l.toArray⟩ : ByteArray) = s := ⟨_, rfl⟩
  rw [hnn] at hm ht1 ht2 ⊢
  rw [hs] at ht1 ht2
  have hfit := hL.fit
  rw [hnn] at hfit
  have hcut := fun w => slice_cut g n cap (n + 70) (by omega) (by omega) w
  have e70 : ((n + 70 : Nat) : Int) = (n : Int) + 70 := by omega
  simp only [e70] at hcut
  have hw70 : IntKind.i64.wrap ((n : Int) + 70) = (n : Int) + 70 := by rw [IntKind.wrap_i64]; omega
  have HM := Lib.hid hm
  have HX : Hid (∃ i : Nat, Value.int .i64 (n : Int) = .int .i64 ((n + i : Nat) : Int) ∧ i ≤ 70) := Lib.hid ⟨0, rfl, by decide⟩
  clear hL hB hn hs hnn hfit hm e70
  go_enter Tryd.func33, Tryd.ntmps33
  go_wp2_with fail
  go_loopw [6] (fun v wr => ∃ i : Nat, v = .int .i64 ((n + i : Nat) : Int) ∧ i ≤ 70 ∧ wr = w) (fun v _ => (n + 70) - (RowKit.intOf v).toNat)
  case atStart =>
    obtain ⟨i, h1, h2⟩ := HX.out
    exact ⟨i, h1, h2, rfl⟩
  case round =>
    clear HX ht1 ht2 hcut
    obtain ⟨i, rfl, h70, rfl⟩ := hrel
    obtain ⟨m, hm⟩ : ∃ m, n + i = m := ⟨_, rfl⟩
    have HMM := Lib.hid hm
    rw [hm]
    by_cases hlt : i < 70
    · have hd : decide ((m : Int) < (n : Int) + 70) = true := decide_eq_true (by omega)
      have hti : (m : Int) < (n : Int) + 70 := by omega
      have hm47 : (m : Int) ≤ 140737488351302 := by have := HM.out; omega
      have c1 : wr.cell? ⟨g, m, none⟩ = some (.int .u8 165) := by
        have hml : m < (marks l 70).length := by rw [marks_length, HL.out]; omega
        rw [HLt.out.cells m hml, marks_get l 70 m (by rw [HL.out]; omega) hml]
        rfl
      clear hm
      go_wp2_with fail
      go_roundw
      case rel => exact ⟨i + 1, by rw [show n + (i + 1) = m + 1 by have := HMM.out; omega]; go_num, hlt, by first | rfl | trivial⟩
      case measure => have := HMM.out; simp [RowKit.intOf]; omega
    · have hd : decide ((m : Int) < (n : Int) + 70) = false := decide_eq_false (by omega)
      have hti : ¬ (m : Int) < (n : Int) + 70 := by omega
      clear hm hlt h70
      go_wp2_with fail
      go_ret
      exact ⟨rfl, rfl⟩
end Go.Proofs.YtjjahcidncnogaaDoor
