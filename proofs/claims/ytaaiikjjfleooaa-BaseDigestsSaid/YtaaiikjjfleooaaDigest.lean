/- Digests as letters, and back: the contracts of base.Digest and base.ToDigest. -/
import Derived.Test.YtaaiikjjfleooaaReads
import Derived.ChangeKeysEq
import Derived.Deep.WholeRow
namespace Go.Proofs.Ytaaiikjjfleooaa
open Go.RowKit Go.Lib

/-- A digest as a value. -/
def dig (D : List UInt8) : Value := .agg (byteCells D).toArray
def zeros : List UInt8 := List.replicate 32 0

theorem items_same (D : List UInt8) (d : Nat) (w : World) : ∀ is : List Nat, (∀ i ∈ is, i < D.length) → (Op.eqItems (d + 1) 5 1 (byteCells D).toArray (byteCells D).toArray is).run Try.prog w = .ok true w := by
  intro is
  induction is with
  | nil => intro _; simp [Op.eqItems]
  | cons i is ih =>
    intro h
    have hi := h i List.mem_cons_self
    have hp : (Go.part 5 (byteCells D).toArray (i * 1)).run Try.prog w = .ok (.int .u8 D[i].toNat) w := by
      have hc : (byteCells D).toArray[i]? = some (.int .u8 D[i].toNat) := by simp [byteCells, List.getElem?_eq_getElem hi]
      simp [Go.part, isAgg, run_underlying Try.underlying5, hc]
    have he := run_equalIn_int (P := Try.prog) w d 5 .u8 .u8 D[i].toNat D[i].toNat Try.underlying5
    simp only [Op.eqItems, Sem.run_bind, hp, Result.andThen_ok, he, beq_self_eq_true, Bool.not_true, Bool.false_eq_true, if_false]
    exact ih fun j hj => h j (List.mem_cons_of_mem _ hj)

theorem dig_same (D : List UInt8) (hD : D.length = 32) (w : World) : (Op.equalIn 10000 55 (dig D) (dig D)).run Try.prog w = .ok true w := by
  obtain ⟨i0, hi, hz0, hz1, hz2⟩ := info_parts infoByte
  unfold dig
  rw [run_equalIn_array w 9999 _ _ (Try.underlying55) hi, show Try.prog.cellsOf 5 = 1 by kernel_rfl]
  exact items_same D 9998 w _ fun i hi => by have := List.mem_range.1 hi; omega

theorem dig_size (D : List UInt8) (hD : D.length = 32) : (Try.prog.info? 55).map (·.size) = some (byteCells D).toArray.size := by
  have : (byteCells D).toArray.size = 32 := by simp [byteCells_length, hD]
  exact (by kernel_rfl : (Try.prog.info? 55).map (·.size) = some 32).trans (by rw [this])

theorem dig_one (D : List UInt8) : (byteCells D).toArray.all (·.oneCell') = true := by
  rw [Array.all_eq_true_iff_forall_mem]
  intro x hx
  simp [byteCells] at hx
  obtain ⟨y, _, rfl⟩ := hx
  rfl

/-- What ToDigest hands back. -/
theorem results_dig {fn : Func} {p q : Tmp} (h : fn.results = #[.cell p 55, .tmp q]) (tmps : Array Value) (w : World) (g : Nat) (D : List UInt8) (hD : D.length = 32) (t : TypeId) (er : Value)
    (hp : tmps.getD p undef = .pointer (some ⟨g, 0, none⟩)) (hg : w.heap[g]? = some (.cells (byteCells D).toArray t (0, 0))) (hq : tmps.getD q undef = er) :
    (results fn tmps).run Try.prog w = .ok (.tuple #[dig D, er]) w := by
  have hp' : tmps[p]?.getD undef = .pointer (some ⟨g, 0, none⟩) := by simpa using hp
  have hq' : tmps[q]?.getD undef = er := by simpa using hq
  simp [results, h, hp', hq', asAddr, dig, run_loadVar_row w g t 55 _ (0, 0) _ hg Try.underlying55 rfl (dig_size D hD)]

set_option maxRecDepth 100000 in
set_option maxHeartbeats 1000000 in
theorem digest_any (D : List UInt8) (hD : D.length = 32) (w : World) :
    Calls Try.prog 30 #[dig D] w fun e w' => e = .returned (.string (lettersOf 1 4 D)) ∧ Below w.heap.size w w' := by
  have hg : Below w.heap.size w (w.alloc (.cells (byteCells D).toArray 55)) := by go_grown
  have hh : (w.alloc (.cells (byteCells D).toArray 55)).heap[w.heap.size]? = some (.cells (byteCells D).toArray 55 (0, 0)) := heap_new _ rfl
  have hB : Bytes (w.alloc (.cells (byteCells D).toArray 55)).heap.size (w.alloc (.cells (byteCells D).toArray 55)).heap.size (some ⟨w.heap.size, 0, none⟩) D (w.alloc (.cells (byteCells D).toArray 55)) := fun _ =>
    ⟨w.heap.size, 0, rfl, by simp, by simp, fun j hj => by
      rw [cell_of_heap hh, Nat.zero_add]
      simp [byteCells, List.getElem?_eq_getElem hj]⟩
  have H := whole_some 1 4 (by decide) _ 32 D _ hB (by omega)
  rw [hD] at H
  have HH := Lib.hid H
  clear H hB hh
  unfold dig lettersOf
  generalize (byteCells D).toArray = X at *
  go_enter Try.func30, Try.ntmps30
  go_wp2_with fail
  refine HH.out.mono ?_
  rintro e w1 ⟨rfl, hb1⟩
  go_wp2_with fail
  go_ret
  exact ⟨rfl, hg.trans (hb1.mono hg.size)⟩

/-- What ToDigest answers. -/
def DigAs (s : List UInt8) (x e : Value) : Prop :=
  (∃ i c, s[i]? = some c ∧ no 1 c < 0 ∧ Good 1 (s.take i) ∧ x = dig zeros ∧ e = .iface 78 (.agg #[.int .i64 60, .int .i64 i])) ∨
  (Good 1 s ∧ ¬ Fit 4 s.length ∧ x = dig zeros ∧ e = .iface 78 (.agg #[.int .i64 61, .int .i64 s.length])) ∨
  (Good 1 s ∧ Fit 4 s.length ∧ ¬ Clean 1 4 s ∧ x = dig zeros ∧ e = .iface 78 (.agg #[.int .i64 62, .int .i64 (s.length - 1)])) ∨
  (Good 1 s ∧ Fit 4 s.length ∧ Clean 1 4 s ∧ (readOf 1 4 s).length ≠ 32 ∧ x = dig zeros ∧ e = .iface 35 (.int .i64 2)) ∨
  (Good 1 s ∧ Fit 4 s.length ∧ Clean 1 4 s ∧ (readOf 1 4 s).length = 32 ∧ x = dig (readOf 1 4 s) ∧ e = .nilIface)

set_option maxRecDepth 100000 in
set_option maxHeartbeats 1000000 in
theorem toDigest_any (s0 : ByteArray) (hlen : s0.data.size ≤ 140737488351232) (w : World) :
    Calls Try.prog 31 #[.string s0] w fun e w' => ∃ x er, e = .returned (.tuple #[x, er]) ∧ DigAs s0.data.toList x er ∧ Below w.heap.size w w' := by
  have HR := Lib.hid (fun w => read_in 1 4 (by decide) s0.data.toList (by rw [Array.length_toList]; exact hlen) w)
  rw [show (⟨s0.data.toList.toArray⟩ : ByteArray) = s0 from rfl] at HR
  go_enter Try.func31, Try.ntmps31
  go_wp2_with fail
  refine (HR.out _).mono ?_
  rintro e w1 ⟨v, er, rfl, hr, hb1⟩
  have hb0 : Below (w.alloc (.cells (byteCells zeros).toArray 55)).heap.size (w.alloc (.cells (byteCells zeros).toArray 55)) w1 := hb1
  clear hb1
  have hw1 : w1.heap[w.heap.size]? = some (.cells (byteCells zeros).toArray 55 (0, 0)) := by
    rw [hb0.block w.heap.size (by simp)]
    exact heap_new _ rfl
  have g0 : Below w.heap.size w (w.alloc (.cells (byteCells zeros).toArray 55)) := by go_grown
  have g1 : Below w.heap.size w w1 := g0.trans (hb0.mono g0.size)
  have hv2 : ∀ D : List UInt8, (w1.setRow w.heap.size (byteCells D).toArray).heap[w.heap.size]? = some (.cells (byteCells D).toArray 55 (0, 0)) := fun D => setRow_heap w1 _ _ _ _ _ hw1
  have gv : ∀ D : List UInt8, Below w.heap.size w (w1.setRow w.heap.size (byteCells D).toArray) := fun D =>
    g1.trans ⟨rfl, rfl, rfl, by simp, fun k hk => setRow_other w1 _ k _ (by omega)⟩
  rcases hr with ⟨i, c, h1, h2, h3, rfl, rfl⟩ | ⟨h1, h2, rfl, rfl⟩ | ⟨h1, h2, h3, rfl, rfl⟩ | ⟨h1, h2, h3, rfl, g, hg, rfl, hwh⟩
  · go_wp2_with (refine wpList_store_row rfl 55 (.tmp 2) (.tmp 14) rfl w.heap.size (byteCells zeros).toArray rfl rfl 55 _ hw1 (dig_size zeros rfl) rfl (dig_one zeros) ?_)
    exact bodyPost_ret (results_dig rfl _ _ w.heap.size zeros rfl _ _ rfl (hv2 _) rfl) rfl ⟨_, _, rfl, .inl ⟨i, c, h1, h2, h3, rfl, rfl⟩, gv _⟩
  · go_wp2_with (refine wpList_store_row rfl 55 (.tmp 2) (.tmp 14) rfl w.heap.size (byteCells zeros).toArray rfl rfl 55 _ hw1 (dig_size zeros rfl) rfl (dig_one zeros) ?_)
    exact bodyPost_ret (results_dig rfl _ _ w.heap.size zeros rfl _ _ rfl (hv2 _) rfl) rfl ⟨_, _, rfl, .inr (.inl ⟨h1, h2, rfl, rfl⟩), gv _⟩
  · go_wp2_with (refine wpList_store_row rfl 55 (.tmp 2) (.tmp 14) rfl w.heap.size (byteCells zeros).toArray rfl rfl 55 _ hw1 (dig_size zeros rfl) rfl (dig_one zeros) ?_)
    exact bodyPost_ret (results_dig rfl _ _ w.heap.size zeros rfl _ _ rfl (hv2 _) rfl) rfl ⟨_, _, rfl, .inr (.inr (.inl ⟨h1, h2, h3, rfl, rfl⟩)), gv _⟩
  · by_cases h32 : (readOf 1 4 s0.data.toList).length = 32
    · have hdg : DigAs s0.data.toList (dig (readOf 1 4 s0.data.toList)) .nilIface := .inr (.inr (.inr (.inr ⟨h1, h2, h3, h32, rfl, rfl⟩)))
      clear h1 h2 h3
      obtain ⟨L, hL⟩ : ∃ L, readOf 1 4 s0.data.toList = L := ⟨_, rfl⟩
      rw [hL] at h32 hdg hwh ⊢
      have HD := Lib.hid hdg
      have H32 := Lib.hid h32
      rw [h32]
      clear hdg hL h32
      unfold Whole at hwh
      have harr : (Instr.arrayAt 55 (.slice (some ⟨g, 0, none⟩) 32 32)).run Try.prog w1 = .ok (.pointer (some ⟨g, 0, none⟩)) w1 := by
        simp [Instr.arrayAt, run_underlying Try.underlying55]
      go_wp2_with (first
        | (refine wpList_load_row rfl 55 (.tmp 23) rfl g rfl 5 _ (0, 0) _ hwh Try.underlying55 rfl (dig_size L H32.out) ?_)
        | (refine wpList_store_row rfl 55 (.tmp 2) (.tmp 24) rfl w.heap.size (byteCells L).toArray rfl rfl 55 _ hw1 (dig_size L H32.out) ?ho (dig_one L) ?_))
      case ho => simp [byteCells_length, H32.out, zeros]
      exact bodyPost_ret (results_dig rfl _ _ w.heap.size L H32.out _ .nilIface rfl (hv2 _) rfl) rfl ⟨dig L, .nilIface, rfl, HD.out, gv _⟩
    · have hdg : DigAs s0.data.toList (dig zeros) (.iface 35 (.int .i64 2)) := .inr (.inr (.inr (.inl ⟨h1, h2, h3, h32, rfl, rfl⟩)))
      clear h1 h2 h3
      have hne : (((readOf 1 4 s0.data.toList).length : Int) != 32) = true := by rw [bne_iff_ne]; omega
      generalize readOf 1 4 s0.data.toList = L at *
      have HD := Lib.hid hdg
      clear hdg h32
      go_wp2_with (refine wpList_store_row rfl 55 (.tmp 2) (.tmp 20) rfl w.heap.size (byteCells zeros).toArray rfl rfl 55 _ hw1 (dig_size zeros rfl) rfl (dig_one zeros) ?_)
      exact bodyPost_ret (results_dig rfl _ _ w.heap.size zeros rfl _ (.iface 35 (.int .i64 2)) rfl (hv2 _) rfl) rfl ⟨dig zeros, _, rfl, HD.out, gv _⟩
end Go.Proofs.Ytaaiikjjfleooaa
