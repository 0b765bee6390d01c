/- A hash is written to, copied, reset: contracts. -/
import Derived.Test.YtjjahcidncnogaaDoorShaWorks
namespace Go.Proofs.YtjjahcidncnogaaDoor
open Go.RowKit Go.Lib

/-- A slice of slices of bytes; neither it nor they lie in block K. -/
def PartsK (b K : Nat) (p : Option Addr) (N : Nat) (P : Nat → Option Addr) (C : Nat → Nat) (L : Nat → List UInt8) (w : World) : Prop :=
  (0 < N → ∃ pb off, p = some ⟨pb, off, none⟩ ∧ pb < b ∧ pb ≠ K ∧ ∀ i, i < N → w.cell? ⟨pb, off + i, none⟩ = some (.slice (P i) (L i).length (C i))) ∧
    ∀ i, i < N → Bytes b K (P i) (L i) w ∧ (L i).length ≤ C i ∧ (L i).length ≤ 140737488351232
theorem PartsK.but {b K : Nat} {p : Option Addr} {N : Nat} {P : Nat → Option Addr} {C : Nat → Nat} {L : Nat → List UInt8} {w w' : World} (h : PartsK b K p N P C L w) (hb : But b K w w') : PartsK b K p N P C L w' :=
  ⟨fun hN => let ⟨pb, off, hp, h1, h2, h3⟩ := h.1 hN; ⟨pb, off, hp, h1, h2, fun i hi => (hb.cell (p := ⟨pb, off + i, none⟩) h1 h2).trans (h3 i hi)⟩,
    fun i hi => let ⟨h1, h2, h3⟩ := h.2 i hi; ⟨h1.but hb (Nat.le_refl _), h2, h3⟩⟩
theorem cat_le (L : Nat → List UInt8) {i k : Nat} (h : i ≤ k) : (cat L i).length ≤ (cat L k).length := by
  induction k with
  | zero => have : i = 0 := by omega
            subst this; exact Nat.le_refl _
  | succ k ih =>
    by_cases e : i = k + 1
    · subst e; exact Nat.le_refl _
    · have := ih (by omega)
      simp only [cat, List.length_append]
      omega

set_option maxRecDepth 100000 in
set_option maxHeartbeats 4000000 in
theorem write_ok (b : Nat) (st0 : List Int) (bl0 : Nat) (l : List UInt8) (p : Option Addr) (N cap : Nat) (hN : N ≤ 140737488351232) (P : Nat → Option Addr) (C : Nat → Nat) (L : Nat → List UInt8) (w : World) (hT : Tab w) (hH : Took b st0 bl0 l w) (hP : PartsK w.heap.size b p N P C L w)
    (hfit : bl0 * 64 + l.length + (cat L N).length < 2305843009213693952) :
    Calls Tryd.prog 65 #[.pointer (some ⟨b, 0, none⟩), .slice p N cap] w fun e w' => e = .returned .nilIface ∧ Took b st0 bl0 (l ++ cat L N) w' ∧ But w.heap.size b w w' := by
  obtain ⟨rest, hHB, hrest⟩ := hH
  have HLen := Lib.hid (len_any b _ _ rest _ w hHB)
  have HTk : Hid (Took b st0 bl0 l w) := Lib.hid ⟨rest, hHB, hrest⟩
  have HT := Lib.hid hT
  have HP := Lib.hid hP
  have HNe := Lib.hid (hHB.tab hT)
  have hlen0 : (blk bl0 (l.length / 64) * 64 + ((l.length % 64 : Nat) : Int)) % 18446744073709551616 = ((bl0 * 64 + l.length : Nat) : Int) := by unfold blk; omega
  obtain ⟨T, hTT⟩ : ∃ T, bl0 * 64 + l.length = T := ⟨_, rfl⟩
  rw [hTT] at hlen0 hfit
  rw [hlen0] at HLen
  clear hHB hrest hT hP hlen0 hTT
  go_enter Tryd.func65, Tryd.ntmps65
  go_wp2_with fail
  refine HLen.out.mono ?_
  rintro e w1 ⟨rfl, n1, rfl⟩
  obtain ⟨v, hv⟩ : ∃ v, v = w.drewN n1 := ⟨_, rfl⟩
  rw [← hv]
  have HP1 : Hid (PartsK w.heap.size b p N P C L v) := Lib.hid (by rw [hv]; exact HP.out)
  have HTk1 : Hid (Took b st0 bl0 l v) := Lib.hid (by rw [hv]; exact HTk.out.drewN _)
  have HB1 : Hid (But w.heap.size b w v) := Lib.hid (by rw [hv]; exact (But.refl _ _ _).drewN _)
  have HZ1 : Hid (v.heap.size = w.heap.size) := Lib.hid (by rw [hv]; rfl)
  clear hv
  go_wp2_with fail
  have HS : Hid (∃ i : Nat, Value.int .i64 0 = .int .i64 i ∧ i ≤ N ∧ Value.int .u64 (T : Int) = .int .u64 ((T + (cat L i).length : Nat) : Int)) := Lib.hid ⟨0, rfl, Nat.zero_le _, rfl⟩
  go_loop [5, 17] (fun s v => ∃ i : Nat, v = .int .i64 i ∧ i ≤ N ∧ s = .int .u64 ((T + (cat L i).length : Nat) : Int)) (fun _ v => N - (RowKit.intOf v).toNat)
  case atStart => exact HS.out
  case round =>
    clear HS
    obtain ⟨i, rfl, hi, rfl⟩ := hrel
    by_cases hlt : i < N
    · obtain ⟨pb, off, hp, hpb, hpk, hc⟩ := HP1.out.1 (by omega)
      subst hp
      have c1 := hc i hlt
      have hle := cat_le L (show i + 1 ≤ N from hlt)
      have hcs : (cat L (i + 1)).length = (cat L i).length + (L i).length := by simp [cat]
      obtain ⟨m, hm⟩ : ∃ m, (L i).length = m := ⟨_, rfl⟩
      obtain ⟨t, ht⟩ : ∃ t, T + (cat L i).length = t := ⟨_, rfl⟩
      obtain ⟨u, hu⟩ : ∃ u, T + (cat L (i + 1)).length = u := ⟨_, rfl⟩
      have HU := Lib.hid hu
      rw [hm] at c1 hcs
      rw [ht]
      have hul : u < 2305843009213693952 := by omega
      have htu : t + m = u := by omega
      have hdl : decide ((i : Int) < (N : Int)) = true := decide_eq_true (by omega)
      have hti : (i : Int) < (N : Int) := by omega
      have e1 : IntKind.u64.wrap ((t : Int) + (m : Int)) = (u : Int) := by show ((t : Int) + (m : Int)) % 18446744073709551616 = _; omega
      have e2 : (t : Int) + (m : Int) = (u : Int) := by omega
      have hdm : decide ((2305843009213693952 : Int) ≤ (u : Int)) = false := decide_eq_false (by omega)
      clear hc hpb hpk hle hcs hm ht hu htu
      go_wp2_with fail
      go_round
      case rel => exact ⟨i + 1, by go_num, hlt, by rw [HU.out]⟩
      case measure => simp [RowKit.intOf]; omega
    · obtain rfl : N = i := by omega
      have hdl : decide ((N : Int) < (N : Int)) = false := decide_eq_false (by omega)
      have HS2 : Hid (∃ i : Nat, Value.int .i64 0 = .int .i64 i ∧ i ≤ N ∧ Hid (Took b st0 bl0 (l ++ cat L i) v) ∧ Hid (But w.heap.size b w v)) := Lib.hid ⟨0, rfl, Nat.zero_le _, by rw [show l ++ cat L 0 = l from List.append_nil l]; exact HTk1, HB1⟩
      clear hlt hi
      go_wp2_with fail
      clear hdl
      go_loopw [32] (fun x wr => ∃ i : Nat, x = .int .i64 i ∧ i ≤ N ∧ Hid (Took b st0 bl0 (l ++ cat L i) wr) ∧ Hid (But w.heap.size b w wr)) (fun x _ => N - (RowKit.intOf x).toNat)
      case atStart => exact HS2.out
      case round =>
        clear HS2
        obtain ⟨i, rfl, hi, htk, hbt⟩ := hrel
        by_cases hlt : i < N
        · have hPr := HP.out.but hbt.out
          obtain ⟨pb, off, hp, hpb, hpk, hc⟩ := hPr.1 (by omega)
          obtain ⟨hby, hlc, hle⟩ := hPr.2 i hlt
          subst hp
          have c1 := hc i hlt
          have HTake := Lib.hid (take_any b st0 bl0 (l ++ cat L i) (L i) (P i) (C i) hlc hle wr (HT.out.but hbt.out HNe.out) htk.out (fun hne => by
            obtain ⟨qb, qo, h1, h2, h3, h4⟩ := hby hne
            exact ⟨qb, qo, h1, Nat.lt_of_lt_of_le h2 hbt.out.size, h3, h4⟩))
          obtain ⟨m, hm⟩ : ∃ m, (L i).length = m := ⟨_, rfl⟩
          rw [hm] at c1 HTake
          have hdl : decide ((i : Int) < (N : Int)) = true := decide_eq_true (by omega)
          have hti : (i : Int) < (N : Int) := by omega
          clear hPr hc hby hlc hle hm hpb hpk
          go_wp2_with fail
          refine HTake.out.mono ?_
          rintro e w2 ⟨rfl, htk2, hb2⟩
          have H2 : Hid (Took b st0 bl0 (l ++ cat L (i + 1)) w2) := Lib.hid (by
            rw [List.append_assoc] at htk2
            exact htk2)
          have HB2 : Hid (But w.heap.size b w w2) := Lib.hid (hbt.out.trans (hb2.mono hbt.out.size))
          clear htk2 hb2
          go_wp2_with fail
          go_roundw
          case rel => exact ⟨i + 1, by go_num, hlt, H2, HB2⟩
          case measure => simp [RowKit.intOf]; omega
        · obtain rfl : N = i := by omega
          have hdl : decide ((N : Int) < (N : Int)) = false := decide_eq_false (by omega)
          clear hlt hi
          go_wp2_with fail
          go_ret
          exact ⟨rfl, htk.out, hbt.out⟩

/-- A hash again, as it stands. -/
theorem took_copy {b c : Nat} {st0 : List Int} {bl0 : Int} {l : List UInt8} {w w' : World} (h : Took b st0 bl0 l w) (hc : w'.heap[c]? = w.heap[b]?) : Took c st0 bl0 l w' :=
  h.elim fun r h => ⟨r, ⟨hc.trans h.1.heap, h.1.ls, h.1.lr⟩, h.2⟩
theorem took_row {b : Nat} {st0 : List Int} {bl0 : Int} {l : List UInt8} {w : World} (h : Took b st0 bl0 l w) : ∃ C : List Value, w.heap[b]? = some (.cells C.toArray 114 (0, 0)) ∧ C.length = 74 ∧ ∀ v ∈ C, v.oneCell' = true :=
  h.elim fun _ h => ⟨_, h.1.heap, hcells_len h.1.ls h.1.lr, hcells_one _ _ _ _⟩

set_option maxRecDepth 100000 in
set_option maxHeartbeats 1000000 in
theorem copy_any (b : Nat) (st0 : List Int) (bl0 : Int) (l : List UInt8) (w : World) (hH : Took b st0 bl0 l w) :
    Calls Tryd.prog 14 #[.pointer (some ⟨b, 0, none⟩)] w fun e w' => e = .returned (.pointer (some ⟨w.heap.size, 0, none⟩)) ∧ Took w.heap.size st0 bl0 l w' ∧ Below w.heap.size w w' := by
  obtain ⟨C, hb, hl, h1⟩ := took_row hH
  have HH := Lib.hid hH
  have HB := Lib.hid hb
  have HS74 : Hid ((Tryd.prog.info? 114).map (·.size) = some C.toArray.size) := Lib.hid (by rw [List.size_toArray, hl]; exact sizeHash)
  have H1C := Lib.hid (all_oneCell_toArray h1)
  have HZ74 : Hid (Tryd.zeroCells114.size = C.toArray.size) := Lib.hid ((show Tryd.zeroCells114.size = 74 by kernel_rfl).trans (by rw [List.size_toArray, hl]))
  have HSet := Lib.hid (World.setRow_alloc_new w Tryd.zeroCells114 C.toArray 114)
  clear hH hb hl h1
  go_enter Tryd.func14, Tryd.ntmps14
  go_wp2_with (first
    | (refine wpList_load_row rfl 114 (.tmp 7) rfl b rfl 114 _ (0, 0) _ HB.out Tryd.underlying114 rfl HS74.out ?_)
    | (refine wpList_store_row rfl 114 (.tmp 3) (.tmp 8) rfl w.heap.size _ rfl rfl 114 Tryd.zeroCells114 ?hg HS74.out HZ74.out H1C.out ?_))
  case hg => exact (MapKept.heap_alloc w _).1
  rw [HSet.out]
  go_wp2_with fail
  go_ret
  exact ⟨rfl, took_copy HH.out ((MapKept.heap_alloc w _).1.trans HB.out.symm), (Below.refl _ w).alloc (Nat.le_refl _) _⟩

set_option maxRecDepth 100000 in
set_option maxHeartbeats 1000000 in
theorem reset_any (b : Nat) (st0 : List Int) (bl0 : Int) (l : List UInt8) (w : World) (hH : Took b st0 bl0 l w) :
    Calls Tryd.prog 16 #[.pointer (some ⟨b, 0, none⟩)] w fun e w' => e = .returned (.tuple #[]) ∧ Took b firstI 0 [] w' ∧ But w.heap.size b w w' := by
  have HN := Lib.hid (fun w => new_any w)
  obtain ⟨D, hd, hld, _⟩ := took_row hH
  have HD := Lib.hid hd
  have hlt := hH.lt
  have HLt := Lib.hid hlt
  clear hH hd
  go_enter Tryd.func16, Tryd.ntmps16
  go_wp2_with fail
  refine (HN.out _).mono ?_
  rintro e w1 ⟨B, rfl, hB, hTk, hb1⟩
  obtain ⟨C, hc, hl, h1⟩ := took_row hTk
  have HC := Lib.hid hc
  have HTk := Lib.hid hTk
  have HS74 : Hid ((Tryd.prog.info? 114).map (·.size) = some C.toArray.size) := Lib.hid (by rw [List.size_toArray, hl]; exact sizeHash)
  have H1C := Lib.hid (all_oneCell_toArray h1)
  have HO : Hid (D.toArray.size = C.toArray.size) := Lib.hid (by rw [List.size_toArray, List.size_toArray, hl, hld])
  have HD1 : Hid (w1.heap[b]? = some (.cells D.toArray 114 (0, 0))) := Lib.hid ((hb1.block b hlt).trans HD.out)
  have HG : Hid (But w.heap.size b w w1) := Lib.hid (But.of hb1)
  clear hc hl h1 hTk hb1 hld hB
  go_wp2_with (first
    | (refine wpList_load_row rfl 114 (.tmp 6) rfl B rfl 114 _ (0, 0) _ HC.out Tryd.underlying114 rfl HS74.out ?_)
    | (refine wpList_store_row rfl 114 (.tmp 8) (.tmp 7) rfl b _ rfl rfl 114 D.toArray HD1.out HS74.out HO.out H1C.out ?_))
  go_returns
  exact ⟨rfl, took_copy HTk.out ((setRow_heap w1 b _ _ _ _ HD1.out).trans HC.out.symm), HG.out.setRow _⟩
end Go.Proofs.YtjjahcidncnogaaDoor
