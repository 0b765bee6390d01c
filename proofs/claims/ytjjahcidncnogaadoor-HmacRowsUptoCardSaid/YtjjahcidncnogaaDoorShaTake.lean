/- A hash takes bytes: plain, and the contract of take. -/
import Derived.Test.YtjjahcidncnogaaDoorShaPad
import Derived.Test.YtjjahcidncnogaaDoorSliceB
import Derived.Laws.Cover3
namespace Go.Proofs.YtjjahcidncnogaaDoor
open Go.RowKit Go.Lib

/-- n blocks, one behind the other. -/
def blocksI : Nat → List Int → List UInt8 → List Int
  | 0, st, _ => st
  | n + 1, st, l => blocksI n (roundI st (bI (l.take 64))) (l.drop 64)
theorem blocksI_snoc : ∀ (n : Nat) (st : List Int) (l : List UInt8), blocksI (n + 1) st l = roundI (blocksI n st l) (bI ((l.drop (64 * n)).take 64))
  | 0, st, l => rfl
  | n + 1, st, l => by
    rw [show blocksI (n + 1 + 1) st l = blocksI (n + 1) (roundI st (bI (l.take 64))) (l.drop 64) from rfl, blocksI_snoc n]
    rw [List.drop_drop, show 64 + 64 * n = 64 * (n + 1) from by omega]
    rfl
theorem blocksI_app : ∀ (n : Nat) (st : List Int) (l q : List UInt8), 64 * n ≤ l.length → blocksI n st (l ++ q) = blocksI n st l
  | 0, _, _, _, _ => rfl
  | n + 1, st, l, q, h => by
    unfold blocksI
    rw [List.take_append_of_le_length (by omega), List.drop_append_of_le_length (by omega)]
    exact blocksI_app n _ _ _ (by rw [List.length_drop]; omega)
theorem blocksI_length : ∀ (n : Nat) (st : List Int) (l : List UInt8), (blocksI n st l).length = st.length
  | 0, _, _ => rfl
  | n + 1, st, l => by unfold blocksI; rw [blocksI_length n, roundI_length]

/-- How many blocks, as the program counts them. -/
def blk (bl0 : Int) (n : Nat) : Int := (bl0 + n) % 18446744073709551616
theorem blk_succ (bl0 : Int) (n : Nat) : (blk bl0 n + 1) % 18446744073709551616 = blk bl0 (n + 1) := by unfold blk; omega

/-- A hash that began at a state and took the bytes l. -/
def Took (b : Nat) (st0 : List Int) (bl0 : Int) (l : List UInt8) (w : World) : Prop :=
  ∃ rest, HB w b (blocksI (l.length / 64) st0 l) (blk bl0 (l.length / 64)) rest ((l.length % 64 : Nat) : Int) ∧ rest.take (l.length % 64) = l.drop (64 * (l.length / 64))
/-- A hash of which n blocks of L are done; what it holds does not matter. -/
def Mids (b : Nat) (st0 : List Int) (bl0 : Int) (L : List UInt8) (n : Nat) (w : World) : Prop :=
  ∃ rest held, HB w b (blocksI n st0 L) (blk bl0 n) rest held

theorem Bytes.but {b B K : Nat} {p : Option Addr} {l : List UInt8} {w w' : World} (hB : Bytes b K p l w) (h : But B K w w') (hb : b ≤ B) : Bytes b K p l w' := fun hne =>
  let ⟨pb, off, hp, h1, h2, hc⟩ := hB hne
  ⟨pb, off, hp, h1, h2, fun j hj => (h.cell (p := ⟨pb, off + j, none⟩) (show pb < B by omega) h2).trans (hc j hj)⟩
theorem Took.lt {b : Nat} {st0 : List Int} {bl0 : Int} {l : List UInt8} {w : World} (h : Took b st0 bl0 l w) : b < w.heap.size := h.elim fun _ h => h.1.lt
theorem Took.keep {w w' : World} {b B : Nat} {st0 : List Int} {bl0 : Int} {l : List UInt8} (h : Took b st0 bl0 l w) (hb : Below B w w') (hlt : b < B) : Took b st0 bl0 l w' :=
  h.elim fun r h => ⟨r, h.1.keep hb hlt, h.2⟩
theorem Took.drewN {w : World} {b : Nat} {st0 : List Int} {bl0 : Int} {l : List UInt8} (h : Took b st0 bl0 l w) (n : Nat) : Took b st0 bl0 l (w.drewN n) := h.elim fun r h => ⟨r, h.1.drewN n, h.2⟩
theorem Took.alloc {w : World} {b : Nat} {st0 : List Int} {bl0 : Int} {l : List UInt8} (h : Took b st0 bl0 l w) (o : Obj) : Took b st0 bl0 l (w.alloc o) := h.elim fun r h => ⟨r, h.1.alloc o, h.2⟩

/-- copy onto a row that is known whole; the row's block alone is written. -/
theorem wpList_copy_but {P : Program} {w : World} {ops : Array Oper} {rest : List Oper} {o : Oper} {a : Act} {Q : Exit → Act → World → Prop} (hgd : o.guard = none) (d s : Operand) (dT sT : TypeId)
    (ho : o.op = .call { callee := .builtin .copy, args := #[d, s], argTypes := #[dT, sT] }) (elem : TypeId) (hu : P.underlying dT = some (.slice elem)) (hsz : (P.info? elem).map (·.size) = some 1)
    (dp sp : Option Addr) (dLen dCap sLen sCap : Nat) (hd : a.eval d = .slice dp dLen dCap) (hs : a.eval s = .slice sp sLen sCap)
    (g off : Nat) (cur : List Value) (t : TypeId) (hg : w.heap[g]? = some (.cells cur.toArray t (0, 0))) (cs : List Value) (hn : cs.length = Nat.min sLen dLen)
    (hpos : 0 < cs.length → dp = some ⟨g, off, none⟩ ∧ ∃ ad, sp = some ad ∧ ∀ j v, cs[j]? = some v → w.cell? (ad.add j) = some v)
    (hfit : off + cs.length ≤ cur.length) (h1 : ∀ v ∈ cs, v.oneCell' = true)
    (h : ∀ w', Hid (w'.heap[g]? = some (.cells (splice cur off cs).toArray t (0, 0))) → Hid (But w.heap.size g w w') → wpList P ops Q rest (a.put o.dst (goInt cs.length)) w') :
    wpList P ops Q (o :: rest) a w := by
  by_cases h0 : cs.length = 0
  · obtain rfl : cs = [] := List.eq_nil_of_length_eq_zero h0
    refine wpList_copy_nothing hgd d s dT sT ho elem hu hsz dp sp dLen dCap sLen sCap hd hs (by simpa using hn.symm) ?_
    exact h w (show _ = _ by simpa [splice] using hg) (But.refl _ _ _)
  · obtain ⟨rfl, ad, rfl, hsrc⟩ := hpos (by omega)
    refine wpList_copy_own hgd d s dT sT ho elem hu hsz g off dLen dCap ad sLen sCap hd hs cur.toArray t hg cs hn hsrc (by simpa using hfit) h1 ?_
    exact h _ (show _ = _ by simpa [splice] using setRow_heap w g _ _ t _ hg) ((But.refl _ _ _).setRow _)

theorem bytes_src {b K : Nat} {p : Option Addr} {l : List UInt8} {w : World} (hB : Bytes b K p l w) (m : Nat) (h0 : 0 < m) (hm : m ≤ l.length) : ∃ ad, p = some ad ∧ ∀ j v, (byteCells (l.take m))[j]? = some v → w.cell? (ad.add j) = some v := by
  obtain ⟨pb, off, hp, h1, h2, hc⟩ := hB (by intro e; rw [e] at hm; simp at hm; omega)
  refine ⟨_, hp, fun j v hj => ?_⟩
  have hj' : j < m := by
    have := (List.getElem?_eq_some_iff.1 hj).1
    rw [bc_len, List.length_take] at this
    omega
  rw [Addr.add_lit, hc j (by omega)]
  simp [byteCells, hj', List.getElem?_eq_getElem (show j < l.length by omega)] at hj
  rw [← hj]
theorem byteCells_one (l : List UInt8) : ∀ v ∈ byteCells l, v.oneCell' = true := by
  intro v hv
  simp [byteCells] at hv
  obtain ⟨x, _, rfl⟩ := hv
  rfl
/-- What is filled up is the block. -/
theorem fill_block (l q rest : List UInt8) (h : rest.length = 64) (hl : rest.take (l.length % 64) = l.drop (64 * (l.length / 64))) (hq : 64 ≤ l.length % 64 + q.length) :
    splice rest (l.length % 64) (q.take (64 - l.length % 64)) = ((l ++ q).drop (64 * (l.length / 64))).take 64 := by
  have h0 : 64 * (l.length / 64) ≤ l.length := by omega
  unfold splice
  rw [hl, List.drop_append_of_le_length h0, List.take_append, List.length_take, List.length_drop]
  rw [List.drop_of_length_le (l := rest) (by rw [h]; omega), List.append_nil, List.take_of_length_le (l := l.drop _) (by rw [List.length_drop]; omega)]
  congr 2
  omega
def lenOf : Value → Nat
  | .slice _ n _ => n
  | _ => 0

theorem arrBlock (p : Option Addr) (m c : Nat) (h : 64 ≤ m) (w : World) : (Instr.arrayAt 112 (.slice p m c)).run Tryd.prog w = .ok (.pointer p) w := by
  have h' : ¬ m < 64 := by omega
  simp [Instr.arrayAt, run_underlying Tryd.underlying112, h']

theorem lenBlock : Tryd.prog.arrayLen 112 = 64 := by kernel_rfl
theorem elemBlock (w : World) : (sizeOf (Tryd.prog.elem 112)).run Tryd.prog w = .ok 1 w := by kernel_rfl
theorem arrBlockD : Tryd.prog.underlying 112 = some (.array (Tryd.prog.arrayLen 112) (Tryd.prog.elem 112)) := by kernel_rfl
/-- h.rest[held:]. -/
theorem slice_block (b d : Nat) (h : d < 64) (w : World) : (Instr.sliceAt 112 (.pointer (some ⟨b, 9, none⟩)) (some (.int .i64 (d : Int))) none none).run Tryd.prog w = .ok (.slice (some ⟨b, 9 + d, none⟩) (64 - d) (64 - d)) w := by
  rw [run_sliceAt_array_l w 112 ⟨b, 9, none⟩ arrBlockD .i64 (d : Int) (by omega) (by rw [lenBlock]; omega), elemBlock w, lenBlock]
  simp only [Result.andThen, slicedAt, Int.toNat_natCast, Nat.mul_one]
  rw [if_neg (by omega), Addr.add_lit]
/-- What is filled up in part. -/
theorem fill_part (l q rest : List UInt8) (d n1 : Nat) (hd : l.length % 64 = d) (hn : q.length = n1) (hend : d + n1 < 64) (hr : rest.length = 64) (hl : rest.take (l.length % 64) = l.drop (64 * (l.length / 64))) :
    (splice rest d (q.take (64 - d))).take (d + n1) = (l ++ q).drop (64 * (l.length / 64)) := by
  rw [hd] at hl
  rw [List.drop_append_of_le_length (by omega), ← hl, List.take_of_length_le (l := q) (by omega)]
  unfold splice
  rw [← List.append_assoc, List.take_append_of_le_length (by rw [List.length_append, List.length_take]; omega), List.take_of_length_le (by rw [List.length_append, List.length_take]; omega)]

/-- What holds at the head of take's loop. -/
def TakeAt (b : Nat) (st0 : List Int) (bl0 : Int) (L : List UInt8) (w : World) (v : Value) (wr : World) : Prop :=
  ∃ (n : Nat) (p : Option Addr) (m c : Nat), v = .slice p m c ∧ m ≤ c ∧ 64 * n + m = L.length ∧ Hid (Bytes w.heap.size b p (L.drop (64 * n)) wr) ∧ Hid (Mids b st0 bl0 L n wr) ∧ Hid (But w.heap.size b w wr)

set_option maxRecDepth 100000 in
set_option maxHeartbeats 8000000 in
theorem take_any (b : Nat) (st0 : List Int) (bl0 : Int) (l q : List UInt8) (p : Option Addr) (cap : Nat) (hc : q.length ≤ cap) (hm : q.length ≤ 140737488351232) (w : World) (hT : Tab w) (hH : Took b st0 bl0 l w) (hB : Bytes w.heap.size b p q w) :
    Calls Tryd.prog 77 #[.pointer (some ⟨b, 0, none⟩), .slice p q.length cap] w fun e w' => e = .returned (.tuple #[]) ∧ Took b st0 bl0 (l ++ q) w' ∧ But w.heap.size b w w' := by
  obtain ⟨rest, hH, hrest⟩ := hH
  have HT := Lib.hid hT
  have HNe := Lib.hid (hH.tab hT)
  have hlt := hH.lt
  have hsz : (Tryd.prog.info? 5).map (·.size) = some 1 := by kernel_rfl
  have HSz := Lib.hid hsz
  have c0 := hH.held
  obtain ⟨d, hd⟩ : ∃ d, l.length % 64 = d := ⟨_, rfl⟩
  have hd64 : d < 64 := by omega
  obtain ⟨n1, hn1⟩ : ∃ n, q.length = n := ⟨_, rfl⟩
  have HN1 := Lib.hid hn1
  have HD := Lib.hid hd
  rw [hd] at c0
  rw [hn1] at hc hm ⊢
  by_cases h0 : d = 0
  · subst h0
    have HA : Hid (TakeAt b st0 bl0 (l ++ q) w (.slice p n1 cap) w) := Lib.hid (by
      refine ⟨l.length / 64, p, n1, cap, rfl, hc, ?_, Lib.hid ?_, Lib.hid ⟨rest, ((l.length % 64 : Nat) : Int), ?_⟩, Lib.hid (But.refl _ _ _)⟩
      · rw [List.length_append]; omega
      · rw [List.drop_append_of_le_length (by omega), List.drop_of_length_le (by omega)]
        exact hB
      · rw [blocksI_app _ _ _ _ (by omega)]
        exact hH)
    clear hH hrest hB hd hn1 hT
    go_enter Tryd.func77, Tryd.ntmps77
    go_wp2_with fail
    clear c0 hc hm hd64 hsz HD HN1
    go_loopw [1] (TakeAt b st0 bl0 (l ++ q) w) (fun v _ => lenOf v)
    case atStart => exact HA.out
    case round =>
      clear HA
      obtain ⟨n, p, m, c, rfl, hmc, hln, hbs, hmd, hbt⟩ := hrel
      by_cases hlt2 : m < 64
      · have hd2 : decide ((64 : Int) ≤ (m : Int)) = false := decide_eq_false (by omega)
        obtain ⟨rst, hld, hHB⟩ := hmd.out
        have hb1 := hHB.heap
        go_wp2_with (refine wpList_copy_but rfl (.tmp 56) (.tmp 57) 28 28 rfl 5 Tryd.underlying28 HSz.out _ _ _ _ _ _ rfl rfl b 9 (hcells (blocksI n st0 (l ++ q)) (blk bl0 n) rst hld) 114 hb1 (byteCells ((l ++ q).drop (64 * n))) ?kn ?kp ?kf (byteCells_one _) ?_)
        case kn => rw [bc_len, List.length_drop]; show _ = min m 64; omega
        case kp =>
          intro h
          rw [bc_len] at h
          have hs := bytes_src hbs.out _ h (Nat.le_refl _)
          rw [List.take_length] at hs
          first | exact hs | exact ⟨rfl, hs⟩
        case kf => rw [bc_len, List.length_drop, hcells_len hHB.ls hHB.lr]; omega
        intro w' HG HBt
        have H1 := hHB.setRest 0 ((l ++ q).drop (64 * n)) (by rw [List.length_drop]; omega) (w' := w') HG.out
        have c73 := H1.held
        have f73 := H1.free 73
        have HH1 := Lib.hid H1
        have hlen : (byteCells ((l ++ q).drop (64 * n))).length = m := by rw [bc_len, List.length_drop]; omega
        rw [hlen]
        clear hlen H1 hb1
        go_wp2_with fail
        go_returns
        refine ⟨rfl, ⟨splice rst 0 ((l ++ q).drop (64 * n)), ?_, ?_⟩, (hbt.out.trans (HBt.out.mono hbt.out.size)).set (.inl rfl) _⟩
        · have hn : (l ++ q).length / 64 = n := by omega
          have hm : (l ++ q).length % 64 = m := by omega
          have h := HH1.out.setHeld (m : Int)
          rw [hn, hm]
          exact h
        · have hn : (l ++ q).length / 64 = n := by omega
          have hm : (l ++ q).length % 64 = m := by omega
          rw [hn, hm]
          unfold splice
          simp only [List.take_zero, List.nil_append]
          rw [List.take_append_of_le_length (by rw [List.length_drop]; omega), List.take_of_length_le (by rw [List.length_drop]; omega)]
      · have hd2 : decide ((64 : Int) ≤ (m : Int)) = true := decide_eq_true (by omega)
        obtain ⟨rst, hld, hHB⟩ := hmd.out
        obtain ⟨pb, off, rfl, hp1, hp2, hp3⟩ := hbs.out (by intro e; have h := congrArg List.length e; rw [List.length_drop] at h; simp at h; simp at hln; omega)
        have harr := arrBlock (some ⟨pb, off, none⟩) m c (by omega) wr
        have hrg : wr.rangeAt pb off (byteCells (((l ++ q).drop (64 * n)).take 64)) := fun j v hj => by
          have hj64 : j < 64 := by
            have := (List.getElem?_eq_some_iff.1 hj).1
            rw [bc_len, List.length_take] at this
            omega
          rw [hp3 j (by rw [List.length_drop]; omega)]
          have hjl : 64 * n + j < (l ++ q).length := by omega
          simp only [byteCells, List.getElem?_map, List.getElem?_take, hj64, if_true] at hj
          rw [List.getElem?_eq_getElem (by rw [List.length_drop]; omega)] at hj
          exact hj
        have HRg := Lib.hid hrg
        have hl64 : (((l ++ q).drop (64 * n)).take 64).length = 64 := by rw [List.length_take, List.length_drop]; omega
        have HL64 := Lib.hid hl64
        have HI64 : Hid ((Tryd.prog.info? 112).map (·.size) = some (byteCells (((l ++ q).drop (64 * n)).take 64)).length) := Lib.hid (by rw [bc_len, hl64]; exact sizeBlock)
        have HTr : Hid (Tab wr) := Lib.hid (HT.out.but hbt.out HNe.out)
        have HStep := Lib.hid (step_any b _ _ rst hld _ hl64 wr HTr.out hHB)
        obtain ⟨q1, hq1, hB1⟩ := slice_from (some ⟨pb, off, none⟩) m c 64 (by omega) hmc
        rw [show ((64 : Nat) : Int) = 64 from rfl] at hq1
        have HB1 := Lib.hid hB1
        clear hrg hl64 hp3 hB1
        go_wp2_with (refine wpList_load_mid rfl 112 (.tmp 47) rfl pb off rfl (byteCells (((l ++ q).drop (64 * n)).take 64)) _ HRg.out Tryd.underlying112 rfl HI64.out ?_)
        refine HStep.out.mono ?_
        rintro e w1 ⟨rfl, hH1, hbt1⟩
        have HTA : Hid (TakeAt b st0 bl0 (l ++ q) w (.slice q1 (m - 64) (c - 64)) w1) := Lib.hid (by
          refine ⟨n + 1, q1, m - 64, c - 64, rfl, by omega, by omega, Lib.hid ?_, Lib.hid ⟨rst, hld, ?_⟩, Lib.hid (hbt.out.trans (hbt1.mono hbt.out.size))⟩
          · have h := HB1.out ((l ++ q).drop (64 * n)) wr w.heap.size b (by rw [List.length_drop]; omega) hbs.out
            rw [List.drop_drop, show 64 * n + 64 = 64 * (n + 1) from by omega] at h
            exact h.but hbt1 hbt.out.size
          · rw [blocksI_snoc, ← blk_succ]
            exact hH1)
        clear hH1 hbt1
        go_wp2_with fail
        go_roundw
        case rel => exact HTA.out
        case measure => simp [lenOf]; omega
  · have hpos : 0 < d := by omega
    have hdi : (0 : Int) < (d : Int) := by omega
    have hsl : ∀ W : World, (Instr.sliceAt 112 (.pointer (some ⟨b, 9, none⟩)) (some (.int .i64 (d : Int))) none none).run Tryd.prog W = .ok (.slice (some ⟨b, 9 + d, none⟩) (64 - d) (64 - d)) W := fun W => slice_block b d hd64 W
    obtain ⟨t, ht⟩ : ∃ t, min n1 (64 - d) = t := ⟨_, rfl⟩
    have htn : t ≤ n1 := by omega
    have HTt := Lib.hid ht
    have HB0 := Lib.hid hB
    have HRest := Lib.hid hrest
    have HH0 := Lib.hid hH
    have hb0 := Lib.hid hH.heap
    obtain ⟨q1, hq1, hB1⟩ := slice_from p n1 cap t htn hc
    have HB1 := Lib.hid hB1
    have hlen : (byteCells (q.take (64 - d))).length = t := by rw [bc_len, List.length_take]; omega
    have HLen := Lib.hid hlen
    clear hH hrest hB hd hn1 hT hB1 ht hlen hsz
    go_enter Tryd.func77, Tryd.ntmps77
    go_wp2_with fail
    refine region_tail 9 (by kernel_rfl) (by kernel_rfl) ?_
    simp only [List.take_succ_cons, List.take_zero, List.drop_succ_cons, List.drop_zero]
    repeat still_step
    refine wpStill_nil ?_
    clear hsl c0
    go_wp2_with (refine wpList_copy_but rfl (.tmp 17) (.tmp 18) 28 28 rfl 5 Tryd.underlying28 HSz.out _ _ _ _ _ _ rfl rfl b (9 + d) (hcells (blocksI (l.length / 64) st0 l) (blk bl0 (l.length / 64)) rest ((l.length % 64 : Nat) : Int)) 114 hb0.out (byteCells (q.take (64 - d))) ?kn ?kp ?kf (byteCells_one _) ?_)
    case kn => rw [HLen.out]; show _ = min n1 (64 - d); exact HTt.out.symm
    case kp =>
      intro h
      rw [HLen.out] at h
      have hs := bytes_src HB0.out (min (64 - d) q.length) (by have := HTt.out; have := HN1.out; omega) (by omega)
      rw [show q.take (min (64 - d) q.length) = q.take (64 - d) from by rw [← List.take_take, List.take_length]] at hs
      first | exact hs | exact ⟨rfl, hs⟩
    case kf => rw [HLen.out, hcells_len HH0.out.ls HH0.out.lr]; have := HTt.out; omega
    intro w1 HG HBt
    have H1 := HH0.out.setRest d (q.take (64 - d)) (by have := HLen.out; rw [bc_len] at this; have := HTt.out; omega) (w' := w1) HG.out
    rw [HD.out] at H1
    have c73 := H1.held
    have f73 := H1.free 73
    have HH1 := Lib.hid H1
    rw [HLen.out]
    have H2 := H1.setHeld ((d : Int) + (t : Int))
    obtain ⟨w2, hw2⟩ : ∃ v, v = w1.setCell ⟨b, 73, none⟩ (.int .i64 ((d : Int) + (t : Int))) := ⟨_, rfl⟩
    have HW2 := Lib.hid hw2
    rw [← hw2] at H2
    have HBt2 : Hid (But w.heap.size b w w2) := Lib.hid (by rw [hw2]; exact (((But.refl w.heap.size b w).drew).trans HBt.out).set (p := ⟨b, 73, none⟩) (.inl rfl) _)
    have HH2 := Lib.hid H2
    clear hw2 H1 H2
    by_cases hend : d + n1 < 64
    · have hdt : decide ((d : Int) + (t : Int) < 64) = true := decide_eq_true (by have := HTt.out; omega)
      have htn1 : Hid (t = n1) := Lib.hid (by have := HTt.out; omega)
      go_wp2_with fail
      rw [← HW2.out]
      have c73b := HH2.out.held
      go_wp2_with fail
      go_returns
      have hlq : (l ++ q).length = l.length + n1 := by rw [List.length_append, HN1.out]
      have e1 : (l ++ q).length / 64 = l.length / 64 := by have := HD.out; omega
      have e2 : (l ++ q).length % 64 = d + n1 := by have := HD.out; omega
      refine ⟨rfl, ⟨splice rest d (q.take (64 - d)), ?_, ?_⟩, HBt2.out⟩
      · rw [e1, e2, blocksI_app _ _ _ _ (by omega)]
        have h := HH2.out
        rw [htn1.out] at h
        exact h
      · rw [e1, e2]
        exact fill_part l q rest d n1 HD.out HN1.out hend HH0.out.lr HRest.out
    · have hdt : decide ((d : Int) + (t : Int) < 64) = false := decide_eq_false (by have := HTt.out; omega)
      have htd : Hid (t = 64 - d) := Lib.hid (by have := HTt.out; omega)
      have HI64 : Hid ((Tryd.prog.info? 112).map (·.size) = some (byteCells (splice rest d (q.take (64 - d)))).length) := Lib.hid (by rw [bc_len, HH2.out.lr]; exact sizeBlock)
      have HT2 : Hid (Tab w2) := Lib.hid (HT.out.but HBt2.out HNe.out)
      have HStep := Lib.hid (step_any b _ _ (splice rest d (q.take (64 - d))) _ _ HH2.out.lr w2 HT2.out HH2.out)
      have HRg : Hid ((w1.setCell ⟨b, 73, none⟩ (.int .i64 ((d : Int) + (t : Int)))).rangeAt b 9 (byteCells (splice rest d (q.take (64 - d))))) := Lib.hid (by rw [← HW2.out]; exact HH2.out.rest)
      go_wp2_with (refine wpList_load_mid rfl 112 (.tmp 39) rfl b 9 rfl (byteCells (splice rest d (q.take (64 - d)))) _ HRg.out Tryd.underlying112 rfl HI64.out ?_)
      rw [← HW2.out]
      refine HStep.out.mono ?_
      rintro e w3 ⟨rfl, hH3, hbt3⟩
      have HA : Hid (TakeAt b st0 bl0 (l ++ q) w (.slice q1 (n1 - t) (cap - t)) w3) := Lib.hid (by
        have hlq : (l ++ q).length = l.length + n1 := by rw [List.length_append, HN1.out]
        have e5 := htd.out
        have e6 := HD.out
        refine ⟨l.length / 64 + 1, q1, n1 - t, cap - t, rfl, by omega, by omega, Lib.hid ?_, Lib.hid ⟨splice rest d (q.take (64 - d)), (d : Int) + (t : Int), ?_⟩, Lib.hid (HBt2.out.trans (hbt3.mono HBt2.out.size))⟩
        · have h := HB1.out q w w.heap.size b HN1.out HB0.out
          rw [show (l ++ q).drop (64 * (l.length / 64 + 1)) = q.drop t from by rw [List.drop_append, List.drop_of_length_le (by omega), List.nil_append]; congr 1; omega]
          exact (h.but HBt2.out (Nat.le_refl _)).but hbt3 HBt2.out.size
        · rw [blocksI_snoc, ← blk_succ, blocksI_app _ _ _ _ (by omega)]
          have h := fill_block l q rest HH0.out.lr HRest.out (by rw [HD.out, HN1.out]; omega)
          rw [HD.out] at h
          rw [← h]
          exact hH3)
      clear hH3 hbt3 c73 f73 hend hm hc hd64 hpos hdi htn hq1 hdt HD HN1 h0
      go_wp2_with fail
      go_loopw [1] (TakeAt b st0 bl0 (l ++ q) w) (fun v _ => lenOf v)
      case atStart => exact HA.out
      case round =>
        clear HA
        obtain ⟨n, p, m, c, rfl, hmc, hln, hbs, hmd, hbt⟩ := hrel
        by_cases hlt2 : m < 64
        · have hd2 : decide ((64 : Int) ≤ (m : Int)) = false := decide_eq_false (by omega)
          obtain ⟨rst, hld, hHB⟩ := hmd.out
          have hb1 := hHB.heap
          go_wp2_with (refine wpList_copy_but rfl (.tmp 56) (.tmp 57) 28 28 rfl 5 Tryd.underlying28 HSz.out _ _ _ _ _ _ rfl rfl b 9 (hcells (blocksI n st0 (l ++ q)) (blk bl0 n) rst hld) 114 hb1 (byteCells ((l ++ q).drop (64 * n))) ?kn ?kp ?kf (byteCells_one _) ?_)
          case kn => rw [bc_len, List.length_drop]; show _ = min m 64; omega
          case kp =>
            intro h
            rw [bc_len] at h
            have hs := bytes_src hbs.out _ h (Nat.le_refl _)
            rw [List.take_length] at hs
            first | exact hs | exact ⟨rfl, hs⟩
          case kf => rw [bc_len, List.length_drop, hcells_len hHB.ls hHB.lr]; omega
          intro w' HG HBt
          have H1 := hHB.setRest 0 ((l ++ q).drop (64 * n)) (by rw [List.length_drop]; omega) (w' := w') HG.out
          have c73 := H1.held
          have f73 := H1.free 73
          have HH1 := Lib.hid H1
          have hlen : (byteCells ((l ++ q).drop (64 * n))).length = m := by rw [bc_len, List.length_drop]; omega
          rw [hlen]
          clear hlen H1 hb1
          go_wp2_with fail
          go_returns
          refine ⟨rfl, ⟨splice rst 0 ((l ++ q).drop (64 * n)), ?_, ?_⟩, (hbt.out.trans (HBt.out.mono hbt.out.size)).set (.inl rfl) _⟩
          · have hn : (l ++ q).length / 64 = n := by omega
            have hm : (l ++ q).length % 64 = m := by omega
            have h := HH1.out.setHeld (m : Int)
            rw [hn, hm]
            exact h
          · have hn : (l ++ q).length / 64 = n := by omega
            have hm : (l ++ q).length % 64 = m := by omega
            rw [hn, hm]
            unfold splice
            simp only [List.take_zero, List.nil_append]
            rw [List.take_append_of_le_length (by rw [List.length_drop]; omega), List.take_of_length_le (by rw [List.length_drop]; omega)]
        · have hd2 : decide ((64 : Int) ≤ (m : Int)) = true := decide_eq_true (by omega)
          obtain ⟨rst, hld, hHB⟩ := hmd.out
          obtain ⟨pb, off, rfl, hp1, hp2, hp3⟩ := hbs.out (by intro e; have h := congrArg List.length e; rw [List.length_drop] at h; simp at h; simp at hln; omega)
          have harr := arrBlock (some ⟨pb, off, none⟩) m c (by omega) wr
          have hrg : wr.rangeAt pb off (byteCells (((l ++ q).drop (64 * n)).take 64)) := fun j v hj => by
            have hj64 : j < 64 := by
              have := (List.getElem?_eq_some_iff.1 hj).1
              rw [bc_len, List.length_take] at this
              omega
            rw [hp3 j (by rw [List.length_drop]; omega)]
            have hjl : 64 * n + j < (l ++ q).length := by omega
            simp only [byteCells, List.getElem?_map, List.getElem?_take, hj64, if_true] at hj
            rw [List.getElem?_eq_getElem (by rw [List.length_drop]; omega)] at hj
            exact hj
          have HRg := Lib.hid hrg
          have hl64 : (((l ++ q).drop (64 * n)).take 64).length = 64 := by rw [List.length_take, List.length_drop]; omega
          have HL64 := Lib.hid hl64
          have HI64 : Hid ((Tryd.prog.info? 112).map (·.size) = some (byteCells (((l ++ q).drop (64 * n)).take 64)).length) := Lib.hid (by rw [bc_len, hl64]; exact sizeBlock)
          have HTr : Hid (Tab wr) := Lib.hid (HT.out.but hbt.out HNe.out)
          have HStep := Lib.hid (step_any b _ _ rst hld _ hl64 wr HTr.out hHB)
          obtain ⟨q1, hq1, hB1⟩ := slice_from (some ⟨pb, off, none⟩) m c 64 (by omega) hmc
          rw [show ((64 : Nat) : Int) = 64 from rfl] at hq1
          have HB1 := Lib.hid hB1
          clear hrg hl64 hp3 hB1
          go_wp2_with (refine wpList_load_mid rfl 112 (.tmp 47) rfl pb off rfl (byteCells (((l ++ q).drop (64 * n)).take 64)) _ HRg.out Tryd.underlying112 rfl HI64.out ?_)
          refine HStep.out.mono ?_
          rintro e w1 ⟨rfl, hH1, hbt1⟩
          have HTA : Hid (TakeAt b st0 bl0 (l ++ q) w (.slice q1 (m - 64) (c - 64)) w1) := Lib.hid (by
            refine ⟨n + 1, q1, m - 64, c - 64, rfl, by omega, by omega, Lib.hid ?_, Lib.hid ⟨rst, hld, ?_⟩, Lib.hid (hbt.out.trans (hbt1.mono hbt.out.size))⟩
            · have h := HB1.out ((l ++ q).drop (64 * n)) wr w.heap.size b (by rw [List.length_drop]; omega) hbs.out
              rw [List.drop_drop, show 64 * n + 64 = 64 * (n + 1) from by omega] at h
              exact h.but hbt1 hbt.out.size
            · rw [blocksI_snoc, ← blk_succ]
              exact hH1)
          clear hH1 hbt1
          go_wp2_with fail
          go_roundw
          case rel => exact HTA.out
          case measure => simp [lenOf]; omega
end Go.Proofs.YtjjahcidncnogaaDoor
