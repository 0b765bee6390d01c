/- What is written is read; letters that are turned are refused, or other bytes: the walk of the law's back. -/
import Derived.Test.YtaaiikjjfleooaaBaseWrite
import Derived.Test.YtaaiikjjfleooaaRefWrite
import Derived.Test.YtaaiikjjfleooaaRoomy
import Derived.Test.YtaaiikjjfleooaaRead
namespace Go.Proofs.Ytaaiikjjfleooaa
open Go.ChangeShapes Go.WideShapes Go.ChangeAt Go.RowKit Go.Lib

/-- A row of bytes of the call's own, as a row that reads. -/
theorem owns_bytes {w : World} {B n : Nat} {v : Value} {L : List UInt8} (h : w.ownsRow B 5 1 v n (byteCells L)) (hn : L.length = n) :
    ∃ p cap, v = .slice p n cap ∧ (p = none → L = []) ∧ Bytes w.heap.size w.heap.size p L w := by
  subst hn
  have hc := fun g hg => h.cells (g := g) hg
  rcases h.2 with ⟨rfl, h0⟩ | ⟨g, cap, cur, rfl, hB, hg, _⟩
  · have : L = [] := List.eq_nil_of_length_eq_zero (by simpa using h0)
    subst this
    exact ⟨none, 0, rfl, fun _ => rfl, fun h => absurd rfl h⟩
  · have hlt := (Array.getElem?_eq_some_iff.1 hg).1
    refine ⟨_, cap, rfl, fun h => (by cases h), fun _ => ⟨g, 0, rfl, hlt, by omega, fun j hj => ?_⟩⟩
    have := hc g rfl j (.int .u8 L[j].toNat) (by simp [byteCells, List.getElem?_eq_getElem hj])
    rw [Nat.zero_add]
    rw [Addr.add_lit, Nat.zero_add] at this
    exact this

/-- What is written is read. -/
theorem read_back (a : Int) (q : Nat) (ha : (a = 1 ∧ q = 4) ∨ (a = 2 ∧ q = 5) ∨ (a = 3 ∧ q = 6)) (l : List UInt8) (hlen : l.length ≤ 134217728) (w : World) :
    Calls Try.prog 20 #[.int .u8 a, .string (lettersOf a q l)] w fun e w' => (∃ p cap, e = .returned (.tuple #[.slice p l.length cap, .nilIface]) ∧ (p = none → l = []) ∧ Bytes w'.heap.size w'.heap.size p l w') ∧ Below w.heap.size w w' := by
  have hM := all_len q (by omega) l
  have hM2 : (allNums q l).length ≤ 268435457 := by
    rw [hM]
    obtain rfl | rfl | rfl : q = 4 ∨ q = 5 ∨ q = 6 := by omega
    all_goals omega
  refine (read_some a q ha ((allNums q l).map (lett a)) (by rw [List.length_map]; omega) w).mono ?_
  rintro e w' ⟨v, er, rfl, hr, hb⟩
  refine ⟨?_, hb⟩
  obtain ⟨r1, r2, r3, r4⟩ := read_write a q ha l
  rw [← List.length_map (f := lett a)] at r2
  rcases hr with ⟨i, c, h1, h2, _⟩ | ⟨_, h2, _⟩ | ⟨_, _, h2, _⟩ | ⟨_, _, _, h2, rfl⟩
  · have := r1 c (List.mem_of_getElem? h1)
    omega
  · exact absurd r2 h2
  · exact absurd r3 h2
  · rw [r4] at h2
    obtain ⟨p, cap, rfl, hn, hB⟩ := owns_bytes h2 rfl
    exact ⟨p, cap, rfl, hn, hB⟩

/-- Other letters, as many: refused, or other bytes. -/
def Other (l : List UInt8) (v er : Value) (w : World) : Prop :=
  (v = .slice none 0 0 ∧ ∃ x, er = .iface 78 x) ∨ (er = .nilIface ∧ ∃ p L cap, v = .slice p L.length cap ∧ (p = none → L = []) ∧ Bytes w.heap.size w.heap.size p L w ∧ L ≠ l ∧ L.length ≤ 268435457)

theorem read_other (a : Int) (q : Nat) (ha : (a = 1 ∧ q = 4) ∨ (a = 2 ∧ q = 5) ∨ (a = 3 ∧ q = 6)) (l t : List UInt8) (hlen : t.length ≤ 268435457) (hne : t ≠ (allNums q l).map (lett a)) (w : World) :
    Calls Try.prog 20 #[.int .u8 a, .string ⟨t.toArray⟩] w fun e w' => (∃ v er, e = .returned (.tuple #[v, er]) ∧ Other l v er w') ∧ Below w.heap.size w w' := by
  refine (read_some a q ha t (by omega) w).mono ?_
  rintro e w' ⟨v, er, rfl, hr, hb⟩
  refine ⟨⟨v, er, rfl, ?_⟩, hb⟩
  rcases hr with ⟨i, c, h1, h2, _, rfl, rfl⟩ | ⟨_, h2, rfl, rfl⟩ | ⟨_, _, h2, rfl, rfl⟩ | ⟨h1, h2, h3, h4, rfl⟩
  · exact .inl ⟨rfl, _, rfl⟩
  · exact .inl ⟨rfl, _, rfl⟩
  · exact .inl ⟨rfl, _, rfl⟩
  · have hwr := write_read a q ha t h1 h2 h3
    have hrl := readOf_length a q t
    generalize readOf a q t = L at *
    obtain ⟨p, cap, rfl, hn, hB⟩ := owns_bytes h4 rfl
    refine .inr ⟨rfl, p, L, cap, rfl, hn, hB, fun e => hne ?_, ?_⟩
    · rw [← e]; exact hwr.symm
    · rw [hrl]
      have : q * t.length ≤ 6 * t.length := Nat.mul_le_mul_right _ (by omega)
      omega

/-- Two texts that are not one. -/
theorem same_no (p1 p2 : Option Addr) (c1 c2 : Nat) (l1 l2 : List UInt8) (w : World) (b K b' K' : Nat) (h1 : Bytes b K p1 l1 w) (h2 : Bytes b' K' p2 l2 w) (n1 : p1 = none → l1 = []) (n2 : p2 = none → l2 = []) (hne : l1 ≠ l2) :
    Calls Try.prog 23 #[.slice p1 l1.length c1, .slice p2 l2.length c2] w fun e w' => e = .returned (.bool false) ∧ w = w' := by
  have e1 := bytes_text c1 h1 n1
  have e2 := bytes_text c2 h2 n2
  go_enter Try.func23, Try.ntmps23
  go_wp2_with fail
  go_ret
  exact ⟨by simp [hne], rfl⟩

set_option maxRecDepth 100000 in
set_option maxHeartbeats 1000000 in
theorem back_walk (a : Int) (p : Option Addr) (cap : Nat) (l : List UInt8) (at' : Int) (c : UInt8) (w : World)
    (hn : p = none → l = []) (hB : Bytes w.heap.size w.heap.size p l w) (hlen : l.length ≤ 140737488351232) :
    Calls Try.prog 24 #[.int .i64 a, .slice p l.length cap, .int .i64 at', .int .u8 c.toNat] w fun e w' => e = .returned (.bool true) ∧ Below w.heap.size w w' := by
  by_cases hbig : 134217728 < l.length
  · have e1 : decide ((134217728 : Int) < (l.length : Int)) = true := decide_eq_true (by omega)
    go_enter Try.func24, Try.ntmps24
    go_wp2_with fail
    refine (beyond_any _ _).mono ?_
    rintro e w1 ⟨rfl, rfl⟩
    go_wp2_with fail
    go_ret
    exact ⟨rfl, Below.refl _ _⟩
  have e1 : decide ((134217728 : Int) < (l.length : Int)) = false := decide_eq_false (by omega)
  have HB := Lib.hid hB
  have HNN := Lib.hid hn
  have hl27 : l.length ≤ 134217728 := by omega
  clear hB hn hbig
  by_cases h3 : a < 1 ∨ 3 < a
  · go_enter Try.func24, Try.ntmps24
    go_wp2_with fail
    refine (beyond_any _ _).mono ?_
    rintro e w1 ⟨rfl, rfl⟩
    go_wp2_with fail
    refine (refBits_none a h3 _).mono ?_
    rintro e w1 ⟨rfl, rfl⟩
    go_wp2_with fail
    go_ret
    exact ⟨rfl, Below.refl _ _⟩
  obtain ⟨q, hq⟩ : ∃ q, (a = 1 ∧ q = 4) ∨ (a = 2 ∧ q = 5) ∨ (a = 3 ∧ q = 6) := by
    obtain h | h | h : a = 1 ∨ a = 2 ∨ a = 3 := by omega
    · exact ⟨4, .inl ⟨h, rfl⟩⟩
    · exact ⟨5, .inr (.inl ⟨h, rfl⟩)⟩
    · exact ⟨6, .inr (.inr ⟨h, rfl⟩)⟩
  have ha1 : 1 ≤ a := by omega
  have ha3 : a ≤ 3 := by omega
  have hq0 : (((q : Nat) : Int) == 0) = false := beq_eq_false_iff_ne.2 (by omega)
  have HQ := Lib.hid hq
  obtain ⟨S, hS⟩ : ∃ S, lettersOf a q l = S := ⟨_, rfl⟩
  have hlt : (allNums q l).map (lett a) = S.data.toList := by rw [← hS]; rfl
  have hM2 : S.size ≤ 268435457 := by
    have h1 : S.size = S.data.toList.length := by rw [Array.length_toList]; rfl
    rw [h1, ← hlt, List.length_map, all_len q (by omega)]
    obtain rfl | rfl | rfl : q = 4 ∨ q = 5 ∨ q = 6 := by omega
    all_goals omega
  have hzz : (decide ((0 : Int) < (l.length : Int)) = true ∧ S.toList.isEmpty = false ∧ 0 < l.length) ∨ (decide ((0 : Int) < (l.length : Int)) = false ∧ ¬ 0 < l.length) := by
    by_cases hz : 0 < l.length
    · refine .inl ⟨decide_eq_true (by omega), ?_, hz⟩
      rw [ByteArray.toList_eq, ← hlt]
      have := (all_facts q (by omega) l).2.1
      cases hx : allNums q l with
      | nil => rw [hx] at this; simp at this; omega
      | cons x t => simp
    · exact .inr ⟨decide_eq_false (by omega), hz⟩
  have HWr := Lib.hid (write_letters a q hq p cap l w HB.out hl27)
  have HRd := Lib.hid (fun w => read_back a q hq l hl27 w)
  have HOt := Lib.hid (fun (t : List UInt8) h1 h2 w => read_other a q hq l t h1 h2 w)
  rw [hS] at HWr HRd
  rw [hlt] at HOt
  obtain ⟨M, hM⟩ : ∃ M, S.size = M := ⟨_, rfl⟩
  rw [hM] at hM2
  clear hq h3 hS hlt
  rcases hzz with ⟨lz1, lz2, lz3⟩ | ⟨lz1, lz2⟩
  all_goals
    go_enter Try.func24, Try.ntmps24
    go_wp2_with fail
    refine (beyond_any _ _).mono ?_
    rintro e w1 ⟨rfl, rfl⟩
    go_wp2_with fail
    refine (refBits_some a q HQ.out _).mono ?_
    rintro e w1 ⟨rfl, rfl⟩
    go_wp2_with fail
    refine HWr.out.mono ?_
    rintro e w1 ⟨rfl, hb1⟩
    have s1 := hb1.size
    go_wp2_with fail
    refine (HRd.out w1).mono ?_
    rintro e w2 ⟨⟨p2, cap2, rfl, hn2, hB2⟩, hb2⟩
    have g2 := hb1.trans (hb2.mono s1)
    have s2 := g2.size
    go_wp2_with fail
    refine (same_yes p p2 cap cap2 l w2 _ _ _ _ (HB.out.keep g2) hB2 HNN.out hn2).mono ?_
    rintro e w3 ⟨rfl, rfl⟩
    clear hb1 hb2
    by_cases hlo : at' < 0
    · have hd : decide (at' < 0) = true := decide_eq_true hlo
      clear hlo
      go_wp2_with fail
      go_ret
      exact ⟨rfl, g2⟩
    have hd : decide (at' < 0) = false := decide_eq_false hlo
    by_cases hhi : (M : Int) ≤ at'
    · have hd2 : decide ((M : Int) ≤ at') = true := decide_eq_true hhi
      clear hlo
      go_wp2_with fail
      go_ret
      exact ⟨rfl, g2⟩
    obtain ⟨i, rfl⟩ : ∃ i : Nat, at' = i := ⟨at'.toNat, by omega⟩
    have hi : i < M := by omega
    have hiS : i < S.size := by omega
    clear hlo hhi
    by_cases hc : S[i].toNat = c.toNat
    · have hd2 : ((S[i].toNat : Int) == (c.toNat : Int)) = true := by rw [hc]; exact beq_self_eq_true _
      clear hc
      go_wp2_with fail
      go_ret
      exact ⟨rfl, g2⟩
    · have hd2 : ((S[i].toNat : Int) == (c.toNat : Int)) = false := beq_eq_false_iff_ne.2 (by omega)
      have HC := Lib.hid hc
      clear hc
      have hcv := run_bytes_of_string (P := Try.prog) w2 9 22 5 S Try.underlying9 Try.underlying22 Try.underlying5
      obtain ⟨cp, hcp⟩ : ∃ cp, grownCap w2 S.size 0 5 = cp := ⟨_, rfl⟩
      rw [hcp, hM] at hcv
      have hR := fun j hj => bytesRow_at S cp j hj
      have hRs : M ≤ (bytesRow S cp).size := by rw [← hM]; unfold bytesRow; rw [Array.size_append, Array.size_map]; exact Nat.le_add_right _ _
      obtain ⟨R, hRR⟩ : ∃ R, bytesRow S cp = R := ⟨_, rfl⟩
      rw [hRR] at hcv hRs
      have HRR := Lib.hid (hRR ▸ hR : ∀ (j : Nat) (hj : j < S.data.size), R[j]? = some (.int .u8 (S.data[j].toNat : Int)))
      clear hRR hcp hR
      obtain ⟨v, hv⟩ : ∃ v : World, v = w2.drew.alloc (.cells R 5 (R.size, R.size + 1)) := ⟨_, rfl⟩
      have hvh : v.heap[w2.heap.size]? = some (.cells R 5 (R.size, R.size + 1)) := by rw [hv]; exact heap_new _ rfl
      have gv : Below w.heap.size w v := by rw [hv]; exact (below_drewN 1 g2).alloc s2 _
      have hvs : v.heap.size = w2.heap.size + 1 := by rw [hv]; simp
      rw [← hv] at hcv
      have hvc : v.cell? ⟨w2.heap.size, i, none⟩ = some (.int .u8 S[i].toNat) := by rw [cell_of_heap hvh]; exact HRR.out i hiS
      have hvf : v.frozen? ⟨w2.heap.size, i, none⟩ = false := by
        unfold World.frozen?
        rw [hvh]
        simp
        omega
      have htl : (S.data.toList.set i c).length = M := by rw [List.length_set, Array.length_toList]; exact hM
      have hcells : ∀ j (hj : j < (S.data.toList.set i c).length), (v.setCell ⟨w2.heap.size, i, none⟩ (.int .u8 c.toNat)).cell? ((⟨w2.heap.size, 0, none⟩ : Addr).add j) = some (.int .u8 ((S.data.toList.set i c)[j].toNat : Int)) := by
        intro j hj
        have hjS : j < S.data.size := by rw [htl] at hj; show j < S.size; omega
        rw [Addr.add_lit, Nat.zero_add, cell_of_heap (row_set (i := i) hvh _)]
        by_cases e : i = j
        · subst e
          rw [Array.getElem?_setIfInBounds_self_of_lt (by omega), List.getElem_set_self]
        · rw [Array.getElem?_setIfInBounds_ne e, List.getElem_set_ne e]
          exact HRR.out j hjS
      have hcv2 := run_convert_bytes_back (P := Try.prog) (v.setCell ⟨w2.heap.size, i, none⟩ (.int .u8 c.toNat)) 22 9 5 ⟨w2.heap.size, 0, none⟩ cp (S.data.toList.set i c) Try.underlying22 Try.underlying5 Try.underlying9 hcells
      rw [htl] at hcv2
      have hne : S.data.toList.set i c ≠ S.data.toList := by
        intro e
        have h1 : (S.data.toList.set i c)[i]? = S.data.toList[i]? := by rw [e]
        have h2 : i < S.data.toList.length := by rw [Array.length_toList]; exact hiS
        rw [List.getElem?_set_self h2, List.getElem?_eq_getElem h2, Option.some.injEq] at h1
        exact HC.out (by rw [h1]; rfl)
      have HO := Lib.hid (HOt.out (S.data.toList.set i c) (by omega) hne (v.setCell ⟨w2.heap.size, i, none⟩ (.int .u8 c.toNat)))
      obtain ⟨T, hT⟩ : ∃ T : ByteArray, (⟨(S.data.toList.set i c).toArray⟩ : ByteArray) = T := ⟨_, rfl⟩
      rw [hT] at HO hcv2
      have gs : Below w.heap.size w (v.setCell ⟨w2.heap.size, i, none⟩ (.int .u8 c.toNat)) := gv.setCell (p := ⟨w2.heap.size, i, none⟩) s2 _
      clear hv hT hne hcells htl hvh
      go_wp2_with fail
      refine HO.out.mono ?_
      rintro e w4 ⟨⟨v4, er, rfl, ho⟩, hb4⟩
      have g4 : Below w.heap.size w w4 := gs.trans (hb4.mono gs.size)
      rcases ho with ⟨rfl, x, rfl⟩ | ⟨rfl, p4, L, cap4, rfl, hn4, hB4, hne4, hl4⟩
      · go_wp2_with fail
        go_ret
        exact ⟨rfl, g4⟩
      · have HSm := Lib.hid (same_no p p4 cap cap4 l L w4 _ _ _ _ (HB.out.keep g4) hB4 HNN.out hn4 (Ne.symm hne4))
        clear hB4 hne4 hn4 hcv hcv2 hvc hvf
        go_wp2_with fail
        refine HSm.out.mono ?_
        rintro e w5 ⟨rfl, rfl⟩
        go_wp2_with fail
        go_ret
        exact ⟨rfl, g4⟩

end Go.Proofs.Ytaaiikjjfleooaa
