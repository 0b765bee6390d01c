/- The digest of parts: the contract of sha's Sum. -/
import Derived.Test.YtjjahcidncnogaaDoorShaSum
import Derived.Test.YtjjahcidncnogaaDoorRowsB
namespace Go.Proofs.YtjjahcidncnogaaDoor
open Go.RowKit Go.Lib

/-- A slice of slices of bytes. -/
def Parts (b : Nat) (p : Option Addr) (N : Nat) (P : Nat → Option Addr) (C : Nat → Nat) (L : Nat → List UInt8) (w : World) : Prop :=
  (0 < N → ∃ pb off, p = some ⟨pb, off, none⟩ ∧ pb < b ∧ ∀ i, i < N → w.cell? ⟨pb, off + i, none⟩ = some (.slice (P i) (L i).length (C i))) ∧
    ∀ i, i < N → Bytes b b (P i) (L i) w ∧ (L i).length ≤ C i ∧ (L i).length ≤ 140737488351232
theorem Parts.keep {b : Nat} {p : Option Addr} {N : Nat} {P : Nat → Option Addr} {C : Nat → Nat} {L : Nat → List UInt8} {w w' : World} (h : Parts b p N P C L w) (hb : Below b w w') : Parts b p N P C L w' :=
  ⟨fun hN => let ⟨pb, off, hp, h1, h2⟩ := h.1 hN; ⟨pb, off, hp, h1, fun i hi => (hb.cell (p := ⟨pb, off + i, none⟩) h1).trans (h2 i hi)⟩,
    fun i hi => let ⟨h1, h2, h3⟩ := h.2 i hi; ⟨h1.keep hb, h2, h3⟩⟩
/-- The digest of a row. -/
def shaL (l : List UInt8) : List UInt8 := sumI firstI 0 l

set_option maxRecDepth 100000 in
set_option maxHeartbeats 4000000 in
theorem sums_any (p : Option Addr) (N cap : Nat) (hN : N ≤ 140737488351232) (P : Nat → Option Addr) (C : Nat → Nat) (L : Nat → List UInt8) (w : World) (hT : Tab w) (hP : Parts w.heap.size p N P C L w) :
    Calls Tryd.prog 22 #[.slice p N cap] w fun e w' => e = .returned (dig (shaL (cat L N))) ∧ Below w.heap.size w w' := by
  have HT := Lib.hid hT
  have HP := Lib.hid hP
  have HNew := Lib.hid (fun w => new_any w)
  have HGa : Hid (Below w.heap.size w (w.alloc (.cells (byteCells zero32).toArray 48))) := Lib.hid ((Below.refl _ w).alloc (Nat.le_refl _) _)
  have HRa : Hid ((w.alloc (.cells (byteCells zero32).toArray 48)).heap[w.heap.size]? = some (.cells (byteCells zero32).toArray 48 (0, 0))) := Lib.hid (MapKept.heap_alloc _ _).1
  clear hT hP
  go_enter Tryd.func22, Tryd.ntmps22
  go_wp2_with fail
  refine (HNew.out _).mono ?_
  rintro e w1 ⟨B, rfl, hB, hTk, hb1⟩
  have hb1' : Below (w.alloc (.cells (byteCells zero32).toArray 48)).heap.size (w.alloc (.cells (byteCells zero32).toArray 48)) w1 := hb1
  have HBl : Hid (w.heap.size + 1 ≤ B) := Lib.hid (by simpa using hB)
  have HTk := Lib.hid hTk
  have HR1 : Hid (w1.heap[w.heap.size]? = some (.cells (byteCells zero32).toArray 48 (0, 0))) := Lib.hid ((hb1'.block _ (by simp)).trans HRa.out)
  have HG1 : Hid (Below w.heap.size w w1) := Lib.hid (HGa.out.trans (hb1'.mono HGa.out.size))
  clear hB hTk hb1 hb1'
  go_wp2_with fail
  go_loopw [9] (fun v wr => ∃ i : Nat, v = .int .i64 i ∧ i ≤ N ∧ Hid (Took B firstI 0 (cat L i) wr) ∧ Hid (wr.heap[w.heap.size]? = some (.cells (byteCells zero32).toArray 48 (0, 0))) ∧ Hid (Below w.heap.size w wr)) (fun v _ => N - (RowKit.intOf v).toNat)
  case atStart => exact ⟨0, rfl, Nat.zero_le _, HTk, HR1, HG1⟩
  case round =>
    obtain ⟨i, rfl, hi, htk, hr, hg⟩ := hrel
    by_cases hlt : i < N
    · obtain ⟨pb, off, hp, hpb, hc⟩ := HP.out.1 (by omega)
      obtain ⟨hby, hlc, hle⟩ := HP.out.2 i hlt
      subst hp
      have c1 := (hg.out.cell (p := ⟨pb, off + i, none⟩) hpb).trans (hc i hlt)
      have HTake := Lib.hid (take_any B firstI 0 (cat L i) (L i) (P i) (C i) hlc hle wr (HT.out.below hg.out) htk.out (fun hne => by
        obtain ⟨qb, qo, h1, h2, h3, h4⟩ := (hby.keep hg.out) hne
        exact ⟨qb, qo, h1, Nat.lt_of_lt_of_le h2 hg.out.size, by have := HBl.out; omega, h4⟩))
      obtain ⟨m, hm⟩ : ∃ m, (L i).length = m := ⟨_, rfl⟩
      rw [hm] at c1 HTake
      have hdl : decide ((i : Int) < (N : Int)) = true := decide_eq_true (by omega)
      have hti : (i : Int) < (N : Int) := by omega
      clear hc hby hlc hle hm hpb
      go_wp2_with fail
      refine HTake.out.mono ?_
      rintro e w2 ⟨rfl, htk2, hb2⟩
      have H2 : Hid (Took B firstI 0 (cat L (i + 1)) w2) := Lib.hid htk2
      have HR2 : Hid (w2.heap[w.heap.size]? = some (.cells (byteCells zero32).toArray 48 (0, 0))) := Lib.hid ((hb2.block _ (Array.getElem?_eq_some_iff.1 hr.out).1 (by have := HBl.out; omega)).trans hr.out)
      have HG2 : Hid (Below w.heap.size w w2) := Lib.hid (hg.out.trans (hb2.below (by have := HBl.out; omega) hg.out.size))
      clear htk2 hb2
      go_wp2_with fail
      go_roundw
      case rel => exact ⟨i + 1, by go_num, hlt, H2, HR2, HG2⟩
      case measure => simp [RowKit.intOf]; omega
    · obtain rfl : N = i := by omega
      have HSum := Lib.hid (sum_any B firstI 0 (cat L N) wr (HT.out.below hg.out) htk.out)
      obtain ⟨D, hD⟩ : ∃ D, sumI firstI 0 (cat L N) = D := ⟨_, rfl⟩
      have HDl : Hid (D.length = 32) := Lib.hid (by rw [← hD]; exact sumI_length _ _ _)
      have HDD : Hid (shaL (cat L N) = D) := Lib.hid hD
      rw [hD] at HSum
      unfold dig at HSum
      have HI := Lib.hid (dig_size D HDl.out)
      have H1 := Lib.hid (dig_one D)
      have HO : Hid ((byteCells zero32).toArray.size = (byteCells D).toArray.size) := Lib.hid (by rw [List.size_toArray, List.size_toArray, bc_len, bc_len, HDl.out]; rfl)
      have HX : Hid (Value.agg (byteCells D).toArray = dig (shaL (cat L N))) := Lib.hid (by rw [HDD.out]; rfl)
      obtain ⟨X, hX⟩ : ∃ X, (byteCells D).toArray = X := ⟨_, rfl⟩
      rw [hX] at HSum HI H1 HO HX
      have hdl : decide ((N : Int) < (N : Int)) = false := decide_eq_false (by omega)
      clear hX hD hlt hi
      go_wp2_with fail
      refine HSum.out.mono ?_
      rintro e w2 ⟨rfl, hb2⟩
      have HR2 : Hid (w2.heap[w.heap.size]? = some (.cells (byteCells zero32).toArray 48 (0, 0))) := Lib.hid ((hb2.block _ (Array.getElem?_eq_some_iff.1 hr.out).1).trans hr.out)
      have HG2 : Hid (Below w.heap.size w w2) := Lib.hid (hg.out.trans (hb2.mono hg.out.size))
      have HV3 : Hid ((w2.setRow w.heap.size X).heap[w.heap.size]? = some (.cells X 48 (0, 0))) := Lib.hid (setRow_heap w2 _ _ _ _ _ HR2.out)
      have HG3 : Hid (Below w.heap.size w (w2.setRow w.heap.size X)) := Lib.hid (HG2.out.trans ⟨rfl, rfl, rfl, by simp, fun k hk => setRow_other w2 _ k _ (by omega)⟩)
      clear hb2
      go_wp2_with (refine wpList_store_row rfl 48 (.tmp 2) (.tmp 18) rfl w.heap.size X rfl rfl 48 _ HR2.out HI.out HO.out H1.out ?_)
      exact bodyPost_ret (results_cell_row rfl _ _ w.heap.size 48 X (0, 0) _ rfl HV3.out Tryd.underlying48 rfl HI.out) rfl ⟨by rw [← HX.out], HG3.out⟩
end Go.Proofs.YtjjahcidncnogaaDoor
