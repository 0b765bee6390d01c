/- slices.Grow of no slice, slices.Concat: contracts, at rows of bytes. -/
import Derived.Test.YtjjahcidncnogaaDoorShaWorks
import Derived.Lib.AppendZerosOnto
namespace Go.Proofs.YtjjahcidncnogaaDoor
open Go.ChangeShapes Go.WideShapes Go.ChangeAt Go.RowKit Go.Lib

theorem wpList_append_at {P : Program} {w : World} {ops : Array Oper} {rest : List Oper} {o : Oper} {a : Act} {Q : Exit → Act → World → Prop} (hgd : o.guard = none) (s x : Operand) (t1 t2 : TypeId)
    (ho : o.op = .call { callee := .builtin .append, args := #[s, x], argTypes := #[t1, t2] }) (vs vx : Value) (hs : a.eval s = vs) (hx : a.eval x = vx) (v : Value) (w' : World) (hr : (Builtin.append_ #[t1, t2] o.type #[vs, vx]).run P w = .ok v w')
    (h : wpList P ops Q rest (a.put o.dst v) w') : wpList P ops Q (o :: rest) a w := by
  refine wpList_plain hgd fun K hK => ?_
  unfold Oper.wp execOp
  simp only [ho, resolve, invoke, builtin, Sem.run_bind, Sem.run_pure, Result.andThen_ok, List.map_toArray, List.map_cons, List.map_nil, hs, hx, hr]
  exact hK _ _ h

set_option maxRecDepth 100000 in
set_option maxHeartbeats 4000000 in
theorem grow_nil (n : Nat) (hn : n ≤ 140737488355328) (w : World) :
    Calls Tryd.prog 78 #[.slice none 0 0, .int .i64 (n : Int)] w fun e w' => ∃ v, e = .returned v ∧ w'.ownsRow w.heap.size 5 1 v 0 [] ∧ Below w.heap.size w w' := by
  obtain ⟨i0, hi, hz0, hz1, hz2⟩ := info_parts infoByte
  by_cases h0 : n = 0
  · subst h0
    go_enter Tryd.func78, Tryd.ntmps78
    go_wp2_with fail
    go_ret
    exact ⟨_, rfl, ⟨rfl, .inl ⟨rfl, rfl⟩⟩, Below.refl _ _⟩
  · have hpos : (0 : Int) < (n : Int) := by omega
    have hold : (Builtin.firstCells i0.size 0 (.slice none 0 0)).run Tryd.prog w.drew = .ok #[] w.drew := run_firstCells_none w.drew i0.size 0 0 0
    have hrz : ∀ ty, (Builtin.append_ #[28, 3] ty #[.slice none 0 0, .int .i64 (n : Int)]).run Tryd.prog w =
        .ok (.slice (some ⟨w.heap.size, 0, none⟩) n (grownCap w n 0 5)) (w.drew.alloc (.cells (#[] ++ Builtin.zeroCells (Value.int .u8 0).cells n ++ Builtin.zeroCells (Value.int .u8 0).cells (grownCap w n 0 5 - n)) 5)) := fun ty => by
      have h := Lib.run_append_grow_zeros w 28 3 ty 5 i0 (.int .u8 0) .i64 .i64 Tryd.underlying28 Tryd.underlying3 hi hz0 none 0 0 [] hold n (by omega) (by omega) (by omega) (by omega)
        (by rw [hz2]; omega)
        (by rw [Nat.zero_add]; exact growslice_fits (by omega) (by rw [hz2]; omega))
      rw [Nat.zero_add] at h
      exact h
    have hGn : n ≤ grownCap w n 0 5 := grownCap_ge w _ _ _
    have hGm : grownCap w n 0 5 ≤ maxLen := grownCap_le_maxLen w n 0 5 (by unfold maxLen; omega)
    obtain ⟨G, hG⟩ : ∃ G, grownCap w n 0 5 = G := ⟨_, rfl⟩
    rw [hG] at hrz hGn hGm
    have HGm := Lib.hid hGm
    have hG63 : (G : Int) ≤ 9223372036854775807 := by unfold maxLen at hGm; omega
    obtain ⟨Z, hZ⟩ : ∃ Z, (#[] ++ Builtin.zeroCells (Value.int .u8 0).cells n ++ Builtin.zeroCells (Value.int .u8 0).cells (G - n)) = Z := ⟨_, rfl⟩
    have hsz : Z.size = G := by rw [← hZ]; simp [size_zeroCells, Value.cells]; omega
    rw [hZ] at hrz
    have HSz := Lib.hid hsz
    have HRz := Lib.hid hrz
    clear hsz hZ hold hGm hrz
    have hd : decide ((0 : Int) < (n : Int)) = true := decide_eq_true hpos
    go_enter Tryd.func78, Tryd.ntmps78
    go_wp2_with (refine wpList_append_at rfl (.tmp 20) (.tmp 21) 28 3 rfl _ _ rfl rfl _ _ (HRz.out _) ?_)
    go_ret
    refine ⟨_, rfl, ⟨rfl, .inr ⟨w.heap.size, G, Z, rfl, Nat.le_refl _, (MapKept.heap_alloc w.drew _).1, Nat.zero_le _, HGm.out, by rw [HSz.out, Nat.mul_one], rfl⟩⟩, ?_⟩
    exact (below_drawn 1 (Below.refl _ w)).alloc (Nat.le_refl _) _

theorem owns_cut {w : World} {B n : Nat} {v : Value} {xs : List Value} (h : w.ownsRow B 5 1 v n xs) : ∃ q c, v = .slice q n c := by
  rcases h.2 with hn | ⟨g, cap, cur, hv, _⟩
  · exact ⟨none, 0, by rw [hn.1, hn.2]⟩
  · exact ⟨_, cap, hv⟩
theorem owns_block {w : World} {B n b : Nat} {v : Value} {xs : List Value} (h : w.ownsRow B 5 1 v n xs) (hb : v.ownBlock = some b) : B ≤ b := by
  rcases h.2 with ⟨rfl, _⟩ | ⟨g, cap, cur, rfl, hg, _⟩
  · cases hb
  · cases hb; exact hg

set_option maxRecDepth 100000 in
set_option maxHeartbeats 4000000 in
theorem concat_any (p : Option Addr) (N cap : Nat) (hN : N ≤ 140737488351232) (P : Nat → Option Addr) (C : Nat → Nat) (L : Nat → List UInt8) (w : World) (hP : Parts w.heap.size p N P C L w) (hnil : ∀ i, i < N → P i = none → L i = [] ∧ C i = 0) (hfit : (cat L N).length ≤ 140737488355328) :
    Calls Tryd.prog 25 #[.slice p N cap] w fun e w' => ∃ v, e = .returned v ∧ w'.ownsRow w.heap.size 5 1 v (cat L N).length (Lib.byteCells (cat L N)) ∧ Below w.heap.size w w' := by
  have HP := Lib.hid hP
  have HNil := Lib.hid hnil
  have HFit := Lib.hid hfit
  have HGrow := Lib.hid (fun n hn w => grow_nil n hn w)
  clear hP hnil hfit
  have HS : Hid (∃ i : Nat, Value.int .i64 0 = .int .i64 i ∧ i ≤ N ∧ Value.int .i64 0 = .int .i64 ((cat L i).length : Int)) := Lib.hid ⟨0, rfl, Nat.zero_le _, rfl⟩
  go_enter Tryd.func25, Tryd.ntmps25
  go_wp2_with fail
  go_loop [3, 11] (fun s v => ∃ i : Nat, v = .int .i64 i ∧ i ≤ N ∧ s = .int .i64 ((cat L i).length : Int)) (fun _ v => N - (RowKit.intOf v).toNat)
  case atStart => exact HS.out
  case round =>
    clear HS
    obtain ⟨i, rfl, hi, rfl⟩ := hrel
    by_cases hlt : i < N
    · obtain ⟨pb, off, hp, hpb, hc⟩ := HP.out.1 (by omega)
      subst hp
      have c1 := hc i hlt
      have hle : (cat L (i + 1)).length ≤ 140737488355328 := by
        have h : ∀ k, (cat L (i + 1)).length ≤ (cat L (i + 1 + k)).length := by
          intro k
          induction k with
          | zero => exact Nat.le_refl _
          | succ k ih => rw [show i + 1 + (k + 1) = i + 1 + k + 1 from rfl]; simp only [cat, List.length_append] at *; omega
        have h2 := h (N - (i + 1))
        rw [show i + 1 + (N - (i + 1)) = N from by omega] at h2
        exact Nat.le_trans h2 HFit.out
      have hcs : (cat L (i + 1)).length = (cat L i).length + (L i).length := by simp [cat]
      obtain ⟨m, hm⟩ : ∃ m, (L i).length = m := ⟨_, rfl⟩
      obtain ⟨t, ht⟩ : ∃ t, (cat L i).length = t := ⟨_, rfl⟩
      obtain ⟨u, hu⟩ : ∃ u, (cat L (i + 1)).length = u := ⟨_, rfl⟩
      have HU := Lib.hid hu
      rw [hm] at c1 hcs
      rw [ht]
      have e2 : (t : Int) + (m : Int) = (u : Int) := by omega
      have hul : (u : Int) ≤ 140737488355328 := by omega
      have hdl : decide ((i : Int) < (N : Int)) = true := decide_eq_true (by omega)
      have hti : (i : Int) < (N : Int) := by omega
      have hmi : (m : Int) ≤ 140737488355328 := by omega
      have hti2 : (t : Int) ≤ 140737488355328 := by omega
      have hdm : decide ((u : Int) < 0) = false := decide_eq_false (by omega)
      clear hc hpb hle hcs hm ht hu
      go_wp2_with fail
      go_round
      case rel => exact ⟨i + 1, by go_num, hlt, by rw [HU.out]⟩
      case measure => simp [RowKit.intOf]; omega
    · obtain rfl : N = i := by omega
      have hdl : decide ((N : Int) < (N : Int)) = false := decide_eq_false (by omega)
      clear hlt hi
      go_wp2_with fail
      refine (HGrow.out _ HFit.out _).mono ?_
      rintro e w1 ⟨v1, rfl, ho1, hb1⟩
      obtain ⟨q1, c1, rfl⟩ := owns_cut ho1
      have HS2 : Hid (∃ (i : Nat) (q : Option Addr) (c : Nat), Value.int .i64 0 = .int .i64 i ∧ i ≤ N ∧ Value.slice q1 0 c1 = .slice q (cat L i).length c ∧ Hid (w1.ownsRow w.heap.size 5 1 (.slice q (cat L i).length c) (cat L i).length (Lib.byteCells (cat L i))) ∧ Hid (Below w.heap.size w w1)) := Lib.hid ⟨0, q1, c1, rfl, Nat.zero_le _, rfl, Lib.hid ho1, Lib.hid hb1⟩
      clear ho1 hb1
      go_wp2_with fail
      clear hdl
      go_loopw [6, 27] (fun s x wr => ∃ (i : Nat) (q : Option Addr) (c : Nat), x = .int .i64 i ∧ i ≤ N ∧ s = .slice q (cat L i).length c ∧ Hid (wr.ownsRow w.heap.size 5 1 (.slice q (cat L i).length c) (cat L i).length (Lib.byteCells (cat L i))) ∧ Hid (Below w.heap.size w wr)) (fun _ x _ => N - (RowKit.intOf x).toNat)
      case atStart => exact HS2.out
      case round =>
        clear HS2
        obtain ⟨i, q, c, rfl, hi, rfl, ho, hb⟩ := hrel
        by_cases hlt : i < N
        · have hPr := HP.out.keep hb.out
          obtain ⟨pb, off, hp, hpb, hc⟩ := hPr.1 (by omega)
          obtain ⟨hby, hlc, hle⟩ := hPr.2 i hlt
          subst hp
          have c1 := hc i hlt
          have hn0 := HNil.out i hlt
          have hfit2 : (cat L i).length + (L i).length ≤ 140737488355328 := by
            have h : ∀ k, (cat L (i + 1)).length ≤ (cat L (i + 1 + k)).length := by
              intro k
              induction k with
              | zero => exact Nat.le_refl _
              | succ k ih => rw [show i + 1 + (k + 1) = i + 1 + k + 1 from rfl]; simp only [cat, List.length_append] at *; omega
            have h2 := h (N - (i + 1))
            rw [show i + 1 + (N - (i + 1)) = N from by omega] at h2
            have h3 := Nat.le_trans h2 HFit.out
            simp only [cat, List.length_append] at h3
            exact h3
          have HBy := Lib.hid hby
          have HNn : Hid (P i = none → (L i).length = 0 ∧ C i = 0) := Lib.hid (fun h => ⟨by rw [(hn0 h).1]; rfl, (hn0 h).2⟩)
          have HSz : Hid (w.heap.size ≤ wr.heap.size) := Lib.hid hb.out.size
          have HF2 := Lib.hid hfit2
          have hdl : decide ((i : Int) < (N : Int)) = true := decide_eq_true (by omega)
          have hti : (i : Int) < (N : Int) := by omega
          clear hPr hc hby hlc hle hpb hn0 hfit2
          go_wp2_with (refine wpList_append_piece rfl (.tmp 31) (.tmp 32) rfl w.heap.size (.slice q (cat L i).length c) (cat L i).length (cat L i) rfl ho.out (P i) (L i).length (C i) ((cat L i).length + (L i).length) (L i) rfl rfl HNn.out w.heap.size w.heap.size HBy.out rfl HF2.out HSz.out ?_)
          intro p2 cap2 w2 ho2 hg2
          have H2 : Hid (w2.ownsRow w.heap.size 5 1 (.slice p2 (cat L (i + 1)).length cap2) (cat L (i + 1)).length (Lib.byteCells (cat L (i + 1)))) := Lib.hid (by
            have e : (cat L (i + 1)).length = (cat L i).length + (L i).length := by simp [cat]
            rw [e]
            exact ho2)
          have HB2 : Hid (Below w.heap.size w w2) := Lib.hid (hb.out.trans ⟨hg2.os, hg2.tape, hg2.output, hg2.size, fun k hk => hg2.block k (by have := HSz.out; omega) (fun e => by have := owns_block ho.out e.symm; omega)⟩)
          clear ho2 hg2
          go_wp2_with fail
          go_roundw
          case rel => exact ⟨i + 1, p2, cap2, by go_num, hlt, by simp [cat], H2, HB2⟩
          case measure => simp [RowKit.intOf]; omega
        · obtain rfl : N = i := by omega
          have hdl : decide ((N : Int) < (N : Int)) = false := decide_eq_false (by omega)
          clear hlt hi
          go_wp2_with fail
          go_ret
          exact ⟨_, rfl, ho.out, hb.out⟩
end Go.Proofs.YtjjahcidncnogaaDoor
