/- The contract of utf's Each: what a round over it is handed. -/
import Derived.RangeFuncNested
import Derived.RangeFuncBound
import Derived.RangeFuncCalls
import Derived.RangeFuncLeaves
import Derived.RangeFuncBox
import Derived.Shelf.Abstract
import Derived.Shelf.RegionOpen
import Derived.OwnWalkIn
import Derived.TacticsInMore
import Derived.LoopNIn
import Derived.LoopIn
import Derived.Maps.AppendAt
import Derived.Test.YtjbhehkkigopmaaUtfUnitsR
namespace Go.Proofs.Ytjbhehkkigopmaa
open Go.RowKit Go.Shelf Go.Lib
attribute [local go_sem] Oper.semAt_some

/-- The characters that Each hands over: a right text's; none of another one. -/
def eachL (l : List UInt8) : List (Nat × Nat) := if rt l = true then runesOf l 0 else []
def encE (x : Nat × Nat) : Array Value := #[.int .i64 (x.2 : Int), .int .i32 (x.1 : Int)]

theorem grown_below' {B : Nat} {w w' : World} (h : Below B w w') (hb : w.heap.size ≤ B) : w.grownBy w' none :=
  ⟨h.os, h.tape, h.output, h.size, fun k hk _ => h.block k (by omega)⟩
theorem grown_iter (w : World) (k : Nat) (s : ByteArray) (pos : Nat) : w.grownBy (w.iterAt k s pos) (some k) :=
  ⟨rfl, rfl, rfl, by rw [iterAt_size]; exact Nat.le_refl _, fun i _ hi => iterAt_other w k i s pos (fun e => hi (by rw [e]))⟩

set_option maxRecDepth 100000 in
set_option maxHeartbeats 2000000 in
theorem each1_in (n : Nat) (hn : 1 ≤ n) (l Bs : Nat) (s : ByteArray) (hs : s.size ≤ 4294967296) (J Jx : List (Nat × Nat) → World → Prop) (W : World) (hJ : AbidesFrom W.heap.size J)
    (hY : ∀ pre x W1, x.1 ≤ 1114111 → J pre W1 → pre.length < (eachL s.data.toList).length → YieldAt Fence.wide (n - 1) Try.prog l (encE x) W1 fun e W' =>
      (e = .returned (.bool true) ∧ J (pre ++ [x]) W' ∧ KeepsWalks W1 W') ∨ (e = .returned (.bool false) ∧ Jx (pre ++ [x]) W'))
    (hBs : W.cell? ⟨Bs, 0, none⟩ = some (.string s)) (hlt : Bs < W.heap.size) (h0 : J [] W) :
    CallsIn Fence.wide n Try.prog 59 #[.func (.yield l) #[] #[], .pointer (some ⟨Bs, 0, none⟩)] W fun e W' => (∃ v, e = .returned v) ∧
      ((∃ ys, ys = eachL s.data.toList ∧ J ys W') ∨ (∃ pre, pre <+: eachL s.data.toList ∧ Jx pre W')) := by
  have HR := Lib.hid (right_any s (by omega))
  have HD := Lib.hid (fun i r n h => decode_form s i r n h)
  have hlen : s.data.toList.length = s.size := Array.length_toList
  obtain ⟨L, hL⟩ : ∃ L, s.data.toList = L := ⟨_, rfl⟩
  rw [hL] at HR HD hlen hY ⊢
  have HL := Lib.hid hlen
  have HJ := Lib.hid hJ
  have HY := Lib.hid hY
  have H0 := Lib.hid h0
  clear hL hlen hJ hY h0
  cases hr : rt L
  · have he : eachL L = [] := by unfold eachL; rw [if_neg (by rw [hr]; decide)]
    rw [hr] at HR
    have HE := Lib.hid he
    clear hr he
    refine callsIn_of_wp Try.func59 rfl trivial ?_ rfl
    simp only [Try.ntmps59, List.size_toArray, List.length_cons, List.length_nil, Nat.reduceAdd, Nat.reduceSub, Array.replicate_succ, Array.replicate_zero, List.push_toArray, List.append_toArray, List.nil_append, List.cons_append]
    gi_wp2
    refine ⟨trivial, ?_⟩
    refine (callsIn_wide.2 (HR.out _)).mono ?_
    rintro e w' ⟨rfl, hb⟩
    gi_wp2
    refine bodyPost_ret (results_none rfl _ _ _) rfl ?_
    refine ⟨⟨_, rfl⟩, .inl ⟨[], HE.out.symm, HJ.out _ _ _ none H0.out (grown_below' hb (Nat.le_refl _)) (fun r e => by cases e)⟩⟩
  · have he : eachL L = runesOf L 0 := by unfold eachL; rw [if_pos hr]
    rw [hr] at HR
    rw [he] at HY ⊢
    obtain ⟨R, hRR⟩ : ∃ R, runesOf L 0 = R := ⟨_, rfl⟩
    rw [hRR] at HY ⊢
    have HRR := Lib.hid hRR
    have HRT := Lib.hid hr
    clear hr he hRR
    refine callsIn_of_wp Try.func59 rfl trivial ?_ rfl
    simp only [Try.ntmps59, List.size_toArray, List.length_cons, List.length_nil, Nat.reduceAdd, Nat.reduceSub, Array.replicate_succ, Array.replicate_zero, List.push_toArray, List.append_toArray, List.nil_append, List.cons_append]
    gi_wp2
    refine ⟨trivial, ?_⟩
    refine (callsIn_wide.2 (HR.out _)).mono ?_
    rintro e w1 ⟨rfl, hb⟩
    have hs1 := hb.size
    have hBs1 := (hb.cell (p := ⟨Bs, 0, none⟩) hlt).trans hBs
    have J1 := Lib.hid (HJ.out _ _ _ none H0.out (grown_below' hb (Nat.le_refl _)) (fun r e => by cases e))
    have J2 := Lib.hid (HJ.out _ _ _ none J1.out (World.grownBy_alloc w1 (.stringIter s 0) none) (fun r e => by cases e))
    clear hBs
    gi_wp2
    gi_loopw [3] (fun _ wr => ∃ (i : Nat) (pre : List (Nat × Nat)), i ≤ s.size ∧ Hid (pre ++ runesOf (L.drop i) i = R) ∧ Hid (RightAt L i) ∧ wr.heap[w1.heap.size]? = some (.stringIter s i) ∧ Hid (J pre wr))
      (fun _ wr => s.size - wr.iterPos w1.heap.size)
    case atStart => exact ⟨0, [], Nat.zero_le _, HRR, rightAt_zero L, World.iter_heap _ _ _, J2⟩
    case round =>
      obtain ⟨i, pre, hi, hk, hra, hit, hj⟩ := hrel
      by_cases hlt2 : i < s.size
      · obtain ⟨r, m, hf, hn1, hn4, hin, hr31, hra2⟩ := rightAt_next HRT.out hra.out (by rw [HL.out]; exact hlt2)
        rw [HL.out] at hin
        have hnx : ∀ ty, (Instr.next (.pointer (some ⟨w1.heap.size, 0, none⟩)) true ty).run Try.prog wr = _ := fun ty => Lib.run_next_any_at wr w1.heap.size s i ty hit hlt2
        rw [HD.out i r m hf] at hnx
        have hit2 := Lib.iterAt_heap wr w1.heap.size s i (i + m) hit
        have hk2 := hk.out
        rw [runesOf_ok hf, List.drop_drop] at hk2
        have hpl : pre.length < R.length := by rw [← hk2]; simp
        have hj2 := HJ.out _ _ _ (some w1.heap.size) hj.out (grown_iter wr w1.heap.size s (i + m)) (fun r e => by cases e; exact ⟨hs1, _, hit, rfl⟩)
        obtain ⟨fn, tmps, assign, body, hy, hR⟩ := HY.out pre (r, i) _ hr31 hj2 hpl
        dsimp only [encE] at hy
        have HK := Lib.hid hk2
        have HRA := Lib.hid hra2
        have HIT := Lib.hid hit
        have HIT2 := Lib.hid hit2
        have HRn := Lib.hid hR
        clear hf hk hk2 hra hra2 hit hit2 hr31 hj hj2 hR hpl
        simp only at hnx
        gi_wp2
        refine HRn.out.mono ?_
        rintro e W3 (⟨rfl, hJ3, hk3⟩ | ⟨rfl, hJx3⟩)
        · have hit3 := hk3.same _ _ HIT2.out rfl
          have HJ3 := Lib.hid hJ3
          clear hJ3 hk3 hnx hy
          gi_wp2
          go_roundw
          case rel => exact ⟨i + m, pre ++ [(r, i)], hin, by refine Lib.hid ?_; rw [List.append_assoc]; exact HK.out, HRA, hit3, HJ3⟩
          case measure => simp only [World.iterPos, hit3, HIT.out]; omega
        · have HJx3 := Lib.hid hJx3
          clear hJx3 hnx hy
          gi_wp2
          refine bodyPost_ret (results_none rfl _ _ _) rfl ?_
          exact ⟨⟨_, rfl⟩, .inr ⟨pre ++ [(r, i)], ⟨_, by rw [List.append_assoc]; exact HK.out⟩, HJx3.out⟩⟩
      · have hnx : ∀ ty, (Instr.next (.pointer (some ⟨w1.heap.size, 0, none⟩)) true ty).run Try.prog wr = _ := fun ty => Lib.run_next_end_at wr w1.heap.size s i ty hit hlt2
        have hk2 := hk.out
        rw [List.drop_of_length_le (by rw [HL.out]; omega), runesOf_nil, List.append_nil] at hk2
        have HK := Lib.hid hk2
        clear hk hk2 hra
        gi_wp2
        go_end0
        exact ⟨⟨_, rfl⟩, .inl ⟨pre, HK.out, hj.out⟩⟩

theorem each_in (s : ByteArray) (w : World) : Calls Try.prog 38 #[.string s] w fun e w' => e = .returned (.func (.func 59) #[] #[.pointer (some ⟨w.heap.size, 0, none⟩)]) ∧ w' = w.alloc (.cells #[.string s] 9) := by
  go_enter Try.func38, Try.ntmps38
  go_wp2
  go_ret
  exact ⟨rfl, rfl⟩

/-- A character with its place, as a round is handed it. -/
abbrev Rn := { x : Nat × Nat // x.1 ≤ 1114111 }
def fsts (xs : List Rn) : List (Nat × Nat) := xs.map (·.1)
theorem fsts_snoc (xs : List Rn) (x : Rn) : fsts (xs ++ [x]) = fsts xs ++ [x.1] := by simp [fsts]
theorem fsts_len (xs : List Rn) : (fsts xs).length = xs.length := by simp [fsts]

/-- What Each hands back, as a round over it takes it. -/
theorem each_stops (n : Nat) (hn : 1 ≤ n) (Bs : Nat) (s : ByteArray) (hs : s.size ≤ 4294967296) (w : World) (hBs : w.cell? ⟨Bs, 0, none⟩ = some (.string s)) (hlt : Bs < w.heap.size) :
    SeqStopsK Fence.wide n Try.prog 59 #[.pointer (some ⟨Bs, 0, none⟩)] (fun x : Rn => encE x.1) KeepsWalks (fun ys => fsts ys = eachL s.data.toList) (fun pre => fsts pre <+: eachL s.data.toList) (eachL s.data.toList).length w := fun l J Jx W hW hJ _ hY h0 =>
  (each1_in n hn l Bs s hs (fun pre W => ∃ p, fsts p = pre ∧ J p W) (fun pre W => ∃ p, fsts p = pre ∧ Jx p W) W
    (fun pre A B row ⟨p, hp, hj⟩ hg hr => ⟨p, hp, hJ p A B row hj hg hr⟩)
    (fun pre x W1 hx ⟨p, hp, hj⟩ hlen => by
      have h := hY p ⟨x, hx⟩ W1 hj (by rw [← fsts_len, hp]; exact hlen)
      refine YieldAt.mono h fun e W' h => ?_
      rcases h with ⟨h1, h2, h3⟩ | ⟨h1, h2⟩
      · exact .inl ⟨h1, ⟨p ++ [⟨x, hx⟩], by rw [fsts_snoc, hp], h2⟩, h3⟩
      · exact .inr ⟨h1, p ++ [⟨x, hx⟩], by rw [fsts_snoc, hp], h2⟩)
    ((hW.cell (p := ⟨Bs, 0, none⟩) hlt).trans hBs) (Nat.lt_of_lt_of_le hlt hW.size) ⟨[], rfl, h0⟩).mono fun e W' ⟨hv, h⟩ => ⟨hv, by
      rcases h with ⟨ys, hy, p, hp, hj⟩ | ⟨pre, hy, p, hp, hj⟩
      · exact .inl ⟨p, hp.trans hy, hj⟩
      · exact .inr ⟨p, by show fsts p <+: _; rw [hp]; exact hy, hj⟩⟩
end Go.Proofs.Ytjbhehkkigopmaa
