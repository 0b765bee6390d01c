/- The law UtfFromUnits holds: FromUnits answers of every row of units as the document's own reckoning does: a text, whose units are that row, or the place of the half that stands alone; what it is given stays as it was, and so does what lies behind it. Of rows of more than 2^30 - 1 units the law asks nothing. -/
import Derived.Test.YtjbhehkkigopmaaUtfRefFrom
import Derived.Test.YtjbhehkkigopmaaUtfDecodes
import Derived.Test.YtjbhehkkigopmaaSpot3
import Derived.Laws.CopyOwn
import Derived.Laws.MakeOwn
import Derived.Laws.OwnMore
namespace Go.Proofs.Ytjbhehkkigopmaa
open Go.ChangeMaps Go.ChangeShapes Go.WideShapes Go.ChangeAt Go.RowKit Go.Lib Go.Joins

theorem cellsUnit : Try.prog.cellsOf 58 = 1 := by kernel_rfl
theorem bytesUnit : Try.prog.bytesOf 58 = 2 := by kernel_rfl

set_option maxRecDepth 100000 in
/-- A slice of units that came in. -/
theorem units_open {H : Type} {enc : TypeId × Value → H} {W : World} {base b0 : Nat} {sp : Nat → Bool} {held : Bool} {v : Value} {d : DataW H} {p : List MemPlace}
    (hv : Value.okWide Try.prog W .any b0 40 v) (h : DataW.Trod enc Try.prog W base sp held 40 v d p) (K : Nat) (_ : W.heap.size ≤ K) :
    ∃ (q : Option Addr) (cap : Nat) (l : List Nat), v = .slice q l.length cap ∧ l.length ≤ maxLen ∧ (q = none → l = []) ∧ (UnitRow W.heap.size q l W ∧ ∀ x ∈ l, x < 65536) ∧ (d = .nil ∧ l = [] ∨ ∃ es sp, d = .slice es sp ∧ es.length = l.length) ∧ l.length ≤ cap := by
  obtain ⟨a1, len, cap, rfl⟩ := okWide_slice Try.underlying40 hv
  obtain ⟨fuel, hf⟩ := h
  rcases open_ints Try.underlying40 Try.underlying58 cellsUnit hf with ⟨hcs, hx⟩ | ⟨a, len', cap', zs, hcs, _, hl, hm, hz, hx, hcell, hwz⟩
  · simp [Value.cells] at hcs
    obtain ⟨rfl, rfl, rfl⟩ := hcs
    simp only [Prod.mk.injEq] at hx
    exact ⟨none, 0, [], rfl, Nat.zero_le _, fun _ => rfl, ⟨fun h => absurd rfl h, fun x hx => by cases hx⟩, .inl ⟨hx.1, rfl⟩, Nat.le_refl _⟩
  · simp [Value.cells] at hcs
    obtain ⟨rfl, rfl, rfl⟩ := hcs
    have hle : len ≤ zs.length := by rw [hz]; split <;> omega
    have hlen : ((zs.take len).map fun n => n.toNat).length = len := by simp; omega
    refine ⟨some a, cap, (zs.take len).map fun n => n.toNat, by rw [hlen], by rw [hlen]; omega, fun h => (by cases h), ⟨fun hne => ?_, fun x hx => ?_⟩, .inr ⟨_, _, by simp only [Prod.mk.injEq] at hx; exact hx.1, by rw [hlen]; simp [lits]; omega⟩, by rw [hlen]; exact hl⟩
    · have h0 : 0 < len := by
        rcases Nat.eq_zero_or_pos len with h | h
        · subst h; simp at hne
        · exact h
      obtain ⟨ab, ao, spot⟩ := a
      have hspot : spot = none := by simpa [Addr.add] using World.cell?_spot (hcell 0 (by omega))
      subst hspot
      have hblk : ab < W.heap.size := by
        have hc := hcell 0 (by omega)
        rw [Addr.add_lit] at hc
        exact World.block_lt_of_cell? _ _ hc
      refine ⟨ab, ao, rfl, hblk, fun j hj => ?_⟩
      rw [hlen] at hj
      have hc := hcell j (by omega)
      rw [Addr.add_lit] at hc
      rw [hc]
      have e : zs.getD j 0 = zs[j]'(by omega) := by simp [List.getD, List.getElem?_eq_getElem (show j < zs.length by omega)]
      have hb := hwz (zs[j]'(by omega)) (List.getElem_mem _)
      simp only [List.getElem_map, List.getElem_take, e]
      simp [Lit.wf, IntKind.min, IntKind.max, IntKind.signed, IntKind.bits] at hb
      congr 2
      omega
    · obtain ⟨z, hz2, rfl⟩ := List.mem_map.1 hx
      have hb := hwz z (List.mem_of_mem_take hz2)
      simp [Lit.wf, IntKind.min, IntKind.max, IntKind.signed, IntKind.bits] at hb
      omega
/-- No row of units that comes in is longer than Go's memory. -/
theorem units_reach {H : Type} {ts : List TypeId} {ds : List (DataW H)} (h : (DataW.weightsEach Try.prog ts ds).all (· ≤ reachBytes) = true) {j : Nat} {d : DataW H} {l : List Nat} (ht : ts[j]? = some 40) (hd : ds[j]? = some d)
    (hl : d = .nil ∧ l = [] ∨ ∃ es sp, d = .slice es sp ∧ es.length = l.length) : l.length ≤ 70368744175616 := by
  rcases hl with ⟨_, rfl⟩ | ⟨es, sp, rfl, he⟩
  · exact Nat.zero_le _
  · have := sized_slice h ht hd Try.underlying40
    rw [bytesUnit] at this
    simp only [reachBytes] at this
    omega

theorem sliceElemU : Try.prog.underlying 40 = some (.slice (Try.prog.elem 40)) := by kernel_rfl
theorem sliceSizeU (w : World) : (sizeOf (Try.prog.elem 40)).run Try.prog w = .ok 1 w := by kernel_rfl

/-- Units with two marks behind them. -/
def RoomyU (g : Nat) (U : List Nat) (w : World) : Prop := w.heap[g]? = some (.cells (unitCells U ++ [Value.int .u16 57005, Value.int .u16 48879]).toArray 58 (0, 0))
theorem unitCells_length (U : List Nat) : (unitCells U).length = U.length := by simp [unitCells]
theorem roomyU_row {g b : Nat} {U : List Nat} {w : World} (h : RoomyU g U w) (hb : g < b) : UnitRow b (some ⟨g, 0, none⟩) U w := fun _ =>
  ⟨g, 0, rfl, hb, fun j hj => by
    unfold RoomyU at h
    rw [cell_of_heap h]
    have hj' : j < (unitCells U).length := by rw [unitCells_length]; exact hj
    rw [Nat.zero_add, List.getElem?_toArray, List.getElem?_append_left hj']
    simp [unitCells, List.getElem?_eq_getElem hj]⟩
theorem roomyU_marks {g n : Nat} {U : List Nat} {w : World} (h : RoomyU g U w) (hn : U.length = n) : w.cell? ⟨g, n, none⟩ = some (.int .u16 57005) ∧ w.cell? ⟨g, n + 1, none⟩ = some (.int .u16 48879) := by
  unfold RoomyU at h
  have hl : (unitCells U).length = n := by rw [unitCells_length, hn]
  rw [cell_of_heap h, cell_of_heap h]
  constructor <;> simp [← hl]
theorem set_marks2 (A : List Value) (n : Nat) (hA : A.length = n) (x y u v : Value) : (((A ++ [x, y]).toArray.setIfInBounds n u).setIfInBounds (n + 1) v) = (A ++ [u, v]).toArray := by
  subst hA
  simp [List.setIfInBounds_toArray, List.set_append_right]

theorem from_right {U : List Nat} (h16 : ∀ x ∈ U, x < 65536) (h : (rdU U).2 = U.length) :
    ∃ T : ByteArray, fromVal U = .tuple #[.string T, .nilIface] ∧ refFromVal U = .tuple #[.string T, .int .i64 (-1)] ∧ rt T.data.toList = true ∧ unitsS T.data.toList = U ∧ T.size ≤ 4 * U.length := by
  obtain ⟨h1, h2⟩ := rdU_back U h16
  obtain ⟨k1, k2⟩ := forms_text _ h1
  refine ⟨⟨(textOf (rdU U).1).toArray⟩, by unfold fromVal; rw [if_pos h], by unfold refFromVal; rw [if_pos h], rt_of_forms k1, ?_, ?_⟩
  · unfold unitsS
    rw [flat_fst]
    show ((runesOf (textOf (rdU U).1) 0).map Prod.fst).flatMap unitsOf = U
    rw [k2, ← h2, h, List.take_length]
  · have e1 := textOf_le (rdU U).1
    have e2 := (rdU_len U).1
    show (textOf (rdU U).1).toArray.size ≤ _
    rw [List.size_toArray]
    omega
theorem from_wrong {U : List Nat} (h : ¬ (rdU U).2 = U.length) :
    ∃ j : Nat, fromVal U = .tuple #[.string ⟨#[]⟩, .iface 81 (.agg #[.int .i64 32, .int .i64 (j : Int)])] ∧ refFromVal U = .tuple #[.string ⟨#[]⟩, .int .i64 (j : Int)] :=
  ⟨(rdU U).2, by unfold fromVal; rw [if_neg h], by unfold refFromVal; rw [if_neg h]⟩

set_option maxRecDepth 100000 in
set_option maxHeartbeats 8000000 in
theorem utfFromUnits_walk (p : Option Addr) (cap : Nat) (U : List Nat) (W : World) (_ : p = none → U = []) (hB : UnitRow W.heap.size p U W ∧ ∀ x ∈ U, x < 65536) (hlen : U.length ≤ 70368744175616) (_ : U.length ≤ cap) :
    Calls Try.prog 7 #[.slice p U.length cap] W fun e w' => e = .returned (.bool true) ∧ Below W.heap.size W w' := by
  obtain ⟨hB, h16⟩ := hB
  have HB := Lib.hid hB
  obtain ⟨n, hn'⟩ : ∃ n, U.length = n := ⟨_, rfl⟩
  have HN := Lib.hid hn'
  by_cases hbig : 2147483647 < 2 * n
  · have e1 : decide ((2147483647 : Int) < 2 * (n : Int)) = true := decide_eq_true (by omega)
    rw [hn'] at hlen ⊢
    clear hB hn' h16
    go_enter Try.func7, Try.ntmps7
    go_wp2_with fail
    refine (beyond_any _ _).mono ?_
    rintro e w1 ⟨rfl, rfl⟩
    go_wp2_with fail
    go_ret
    exact ⟨rfl, Below.refl _ _⟩
  have e1 : decide ((2147483647 : Int) < 2 * (n : Int)) = false := decide_eq_false (by omega)
  obtain ⟨i0, hi, hz0, hz1, hz2⟩ := info_parts infoUnit
  have hsz : (Try.prog.info? 58).map (·.size) = some 1 := by kernel_rfl
  have hUn : U.length ≤ 4294967296 := by omega
  have HFrom := Lib.hid (fun q cap w hrow => fromUnits_any q cap U w hrow h16 hUn)
  have HRef := Lib.hid (fun q cap w hrow => refFromUnits_any q cap U w hrow h16 hUn)
  have HSame := Lib.hid (fun q1 q2 c1 c2 b w h1 h2 hb => sameUnits_yes q1 q2 c1 c2 b U w h1 h2 hb (by omega))
  have hback := rdU_back U h16
  have hle := rdU_len U
  have hmk : ∀ w : World, (Instr.makeSlice 40 (.int .i64 (n : Int)) (.int .i64 ((n : Int) + 2))).run Try.prog w = .ok (.slice (some ⟨w.heap.size, 0, none⟩) n (n + 2)) (w.alloc (.cells (madeCells #[.int .u16 0] (n + 2)) 58)) := fun w => by
    have h := run_make (P := Try.prog) w 40 58 i0 (.int .u16 0) Try.underlying40 hi hz0 .i64 .i64 (n : Int) ((n : Int) + 2) (by omega) (by omega) (by rw [hz2]; omega) (by omega)
    rw [hz1, Nat.mul_one, show ((n : Int) + 2).toNat = n + 2 by omega, Int.toNat_natCast] at h
    exact h
  have hsl : ∀ (w : World) (g : Nat), (Instr.sliceAt 40 (.slice (some ⟨g, 0, none⟩) n (n + 2)) none (some (.int .i64 ((n : Int) + 2))) none).run Try.prog w = .ok (.slice (some ⟨g, 0, none⟩) (n + 2) (n + 2)) w := fun w g => by
    rw [run_sliceAt_slice w 40 _ _ _ _ sliceElemU, run_slice_h w 40 _ n (n + 2) sliceElemU .i64 ((n : Int) + 2) (by omega) (by omega), sliceSizeU]
    simp only [Result.andThen, sliced, show ((n : Int) + 2).toNat = n + 2 by omega, Nat.sub_zero]
    rw [if_neg (by omega)]
    simp [Addr.add]
  rw [hn'] at HFrom HRef HSame hUn hlen ⊢
  have H16 := Lib.hid h16
  clear hB hn' h16 hback hle
  go_enter Try.func7, Try.ntmps7
  go_wp2_with fail
  refine (beyond_any _ _).mono ?_
  rintro e w1 ⟨rfl, rfl⟩
  go_wp2_with (refine wpList_copy_splice rfl (.tmp 21) (.tmp 22) 40 40 rfl 58 Try.underlying40 hsz _ _ _ _ _ _ rfl rfl W.heap.size 0 (List.replicate (n + 2) (.int .u16 0)) 58 ?kg (unitCells U) ?kn ?kp ?kf ?ko W.heap.size W ?kb (Nat.le_refl _) ?_)
  case kg =>
    have h := (MapKept.heap_alloc W (.cells (madeCells #[.int .u16 0] (n + 2)) 58)).1
    rw [h]
    congr 2
    apply Array.ext'
    rw [toList_madeCells_one]
  case kn => rw [unitCells_length, HN.out]; simp
  case kp =>
    intro h0
    rw [unitCells_length] at h0
    obtain ⟨pb, off, hp, h1, hc⟩ := HB.out (by intro e; rw [e] at h0; simp at h0)
    refine ⟨_, hp, fun j v hj => ?_⟩
    have hj' : j < U.length := by
      have := (List.getElem?_eq_some_iff.1 hj).1
      rwa [unitCells_length] at this
    rw [Addr.add_lit, World.cell?_of_block (w := W) (Below.heap_alloc W _ pb h1), hc j hj']
    simp [unitCells, List.getElem?_eq_getElem hj'] at hj
    rw [hj]
  case kf => rw [unitCells_length, HN.out]; simp
  case ko =>
    intro v hv
    simp only [unitCells, List.mem_map] at hv
    obtain ⟨b, _, rfl⟩ := hv
    rfl
  case kb => exact (Below.refl _ W).alloc (Nat.le_refl _) _
  intro w2 hh hb2
  have hh2 : w2.heap[W.heap.size]? = some (.cells (unitCells U ++ [Value.int .u16 0, Value.int .u16 0]).toArray 58 (0, 0)) := by
    rw [hh.out]
    congr 3
    unfold splice
    rw [List.take_zero, List.nil_append, unitCells_length, HN.out, Nat.zero_add, List.drop_replicate]
    simp
  have hl2 : (unitCells U).length = n := by rw [unitCells_length, HN.out]
  have c1 : w2.cell? ⟨W.heap.size, n, none⟩ = some (.int .u16 0) := by rw [cell_of_heap hh2]; simp [← hl2]
  have c2 : w2.cell? ⟨W.heap.size, n + 1, none⟩ = some (.int .u16 0) := by rw [cell_of_heap hh2]; simp [← hl2]
  have f1 : w2.frozen? ⟨W.heap.size, n, none⟩ = false := frozen_of_heap hh2 n
  have f2 : w2.frozen? ⟨W.heap.size, n + 1, none⟩ = false := frozen_of_heap hh2 (n + 1)
  have hg2 : W.heap.size < w2.heap.size := (Array.getElem?_eq_some_iff.1 hh2).1
  have HR : Hid (RoomyU W.heap.size U ((w2.setCell ⟨W.heap.size, n, none⟩ (.int .u16 57005)).setCell ⟨W.heap.size, n + 1, none⟩ (.int .u16 48879))) := Lib.hid (by
    unfold RoomyU
    rw [row_set (row_set hh2 _) _, set_marks2 _ n hl2])
  have HB2 := Lib.hid ((hb2.setCell (p := ⟨W.heap.size, n, none⟩) (Nat.le_refl _) (.int .u16 57005)).setCell (p := ⟨W.heap.size, n + 1, none⟩) (Nat.le_refl _) (.int .u16 48879))
  have HS2 := Lib.hid (show W.heap.size < ((w2.setCell ⟨W.heap.size, n, none⟩ (.int .u16 57005)).setCell ⟨W.heap.size, n + 1, none⟩ (.int .u16 48879)).heap.size by rw [World.size_setCell, World.size_setCell]; exact hg2)
  clear hh hh2 hb2
  go_wp2_with fail
  generalize ((w2.setCell ⟨W.heap.size, n, none⟩ (.int .u16 57005)).setCell ⟨W.heap.size, n + 1, none⟩ (.int .u16 48879)) = v2 at HR HB2 HS2 ⊢
  clear c1 c2 f1 f2 hg2
  have s2 := HS2.out
  refine (HFrom.out _ _ v2 (roomyU_row HR.out s2)).mono ?_
  rintro e w3 ⟨rfl, hb3⟩
  have s3 := hb3.size
  have g3 : Below W.heap.size W w3 := HB2.out.trans (hb3.mono (by omega))
  have HR3 : Hid (RoomyU W.heap.size U w3) := Lib.hid ((hb3.block _ s2).trans HR.out)
  have HB3 := Lib.hid g3
  have HA3 := Lib.hid (HB.out.keep g3)
  clear hb3 g3
  have HM3 := roomyU_marks HR3.out HN.out
  obtain ⟨k1, k2⟩ := HM3
  by_cases hall : (rdU U).2 = U.length
  · obtain ⟨T, t1, t2, t3, t4, t5⟩ := from_right H16.out hall
    have HT := Lib.hid (units_right T (by rw [HN.out] at t5; omega) t3)
    rw [t4] at HT
    unfold UnitsTold at HT
    rw [t2] at HRef
    rw [t1]
    clear hall t1 t2 t3 t4 t5
    go_wp2_with fail
    refine (HSame.out _ _ _ _ w3.heap.size w3 (roomyU_row HR3.out (by omega)) ?_ (Nat.le_refl _)).mono ?_
    · exact fun hne => by
        obtain ⟨pb, off, h1, h2, h3⟩ := HA3.out hne
        exact ⟨pb, off, h1, by omega, h3⟩
    rintro e w4 ⟨rfl, hb4⟩
    have s4 := hb4.size
    have k1' := (hb4.cell (p := ⟨W.heap.size, n, none⟩) (show W.heap.size < w3.heap.size by omega)).trans k1
    have k2' := (hb4.cell (p := ⟨W.heap.size, n + 1, none⟩) (show W.heap.size < w3.heap.size by omega)).trans k2
    have HB4 := Lib.hid (HB3.out.trans (hb4.mono HB3.out.size))
    have HA4 := Lib.hid (HB.out.keep HB4.out)
    clear hb4 k1 k2
    go_wp2_with fail
    refine (HRef.out p cap w4 ?_).mono ?_
    · exact fun hne => by
        obtain ⟨pb, off, h1, h2, h3⟩ := HA4.out hne
        exact ⟨pb, off, h1, by omega, h3⟩
    rintro e w5 ⟨rfl, hb5⟩
    have s5 := hb5.size
    have HB5 := Lib.hid (HB4.out.trans (hb5.mono HB4.out.size))
    clear hb5 k1' k2'
    go_wp2_with fail
    refine (HT.out w5).mono ?_
    rintro e w6 ⟨v6, rfl, ho6, hb6⟩
    obtain ⟨q6, c6, rfl, hc6, hm6, hr6, hk6⟩ := own_unitRow ho6
    have s6 := hb6.size
    have HB6 := Lib.hid (HB5.out.trans (hb6.mono HB5.out.size))
    have HA6 := Lib.hid (HB.out.keep HB6.out)
    have HR6 := Lib.hid hr6
    rw [HN.out] at hc6 ⊢
    clear hb6 ho6 hk6 hr6
    go_wp2_with fail
    refine (HSame.out p q6 cap c6 w6.heap.size w6 ?_ HR6.out (Nat.le_refl _)).mono ?_
    · exact fun hne => by
        obtain ⟨pb, off, h1, h2, h3⟩ := HA6.out hne
        exact ⟨pb, off, h1, by omega, h3⟩
    rintro e w7 ⟨rfl, hb7⟩
    have HB7 := Lib.hid (HB6.out.trans (hb7.mono HB6.out.size))
    clear hb7
    go_wp2_with fail
    go_ret
    exact ⟨rfl, HB7.out⟩
  · obtain ⟨j, t1, t2⟩ := from_wrong hall
    rw [t2] at HRef
    rw [t1]
    clear hall t1 t2
    go_wp2_with fail
    refine (HSame.out _ _ _ _ w3.heap.size w3 (roomyU_row HR3.out (by omega)) ?_ (Nat.le_refl _)).mono ?_
    · exact fun hne => by
        obtain ⟨pb, off, h1, h2, h3⟩ := HA3.out hne
        exact ⟨pb, off, h1, by omega, h3⟩
    rintro e w4 ⟨rfl, hb4⟩
    have s4 := hb4.size
    have k1' := (hb4.cell (p := ⟨W.heap.size, n, none⟩) (show W.heap.size < w3.heap.size by omega)).trans k1
    have k2' := (hb4.cell (p := ⟨W.heap.size, n + 1, none⟩) (show W.heap.size < w3.heap.size by omega)).trans k2
    have HB4 := Lib.hid (HB3.out.trans (hb4.mono HB3.out.size))
    have HA4 := Lib.hid (HB.out.keep HB4.out)
    clear hb4 k1 k2
    go_wp2_with fail
    refine (HRef.out p cap w4 ?_).mono ?_
    · exact fun hne => by
        obtain ⟨pb, off, h1, h2, h3⟩ := HA4.out hne
        exact ⟨pb, off, h1, by omega, h3⟩
    rintro e w5 ⟨rfl, hb5⟩
    have s5 := hb5.size
    have HB5 := Lib.hid (HB4.out.trans (hb5.mono HB4.out.size))
    have hj0 : (0 : Int) ≤ (j : Int) := by omega
    clear hb5 k1' k2'
    go_wp2_with fail
    refine (spot_yes _ _ _).mono ?_
    rintro e w7 ⟨rfl, hb7⟩
    have HB7 := Lib.hid (HB5.out.trans (hb7.mono HB5.out.size))
    clear hb7
    go_wp2_with fail
    go_ret
    exact ⟨rfl, HB7.out⟩

set_option maxRecDepth 100000 in
theorem utfFromUnits_lifted (os : Os) (started : os.Started) (H : Type) (enc : TypeId × Value → H) :
    ReturnsInHanded {} Try.checked os 7 .any (Rows.utfFromUnitsSpec.pre6 enc Try.prog Try.f7 Rows.utfFromUnitsRow.domain false) (Rows.utfFromUnitsSpec.post enc Try.prog Try.f7 false true false false) := by
  refine returnsInHanded_of_change_sized (C := Try.checked) own started (by kernel_rfl) Try.func7
    (ChangeSpec.witness6 (enc := enc) (C := Try.checked) false ⟨#[], #[.slice none 0 0], []⟩ 8 (by kernel_rfl) (by kernel_rfl) (by kernel_rfl) (by kernel_rfl)) ?_
  intro W base args ds gs before hval0 hW _ hsz0 _
  have hsz : (DataW.weightsEach Try.prog (Try.f7.params.toList ++ Rows.utfFromUnitsSpec.plain.varTypes Try.prog) (ds ++ gs)).all (· ≤ reachBytes) = true := hsz0
  clear hsz0
  have hval : ∀ (j : Nat) t v, Try.f7.params[j]? = some t → args[j]? = some v → Value.okWide Try.prog W .any base t v := hval0
  have hW' := hW
  obtain ⟨p, q, hA0, hV, rfl, hfz, hnd⟩ := hW
  have hA : DataW.TrodAll enc Try.prog W 0 (fun _ => true) true Try.f7.params.toList args.toList ds p := hA0
  rw [Try.params7] at hA hval hsz
  obtain ⟨v0, vs0, d0, ds0, p0, q0, hargs, rfl, rfl, h0, r0⟩ := trodAll_cons hA
  obtain ⟨rfl, rfl, rfl⟩ := trodAll_nil r0
  obtain rfl : args = #[v0] := by cases args; simp_all
  obtain ⟨rfl, rfl⟩ := trodVars_none hV
  have h0k := h0
  obtain ⟨a0, c0, l0, rfl, m0, n0, B0, s0, k0⟩ := units_open (hval 0 40 v0 rfl rfl) h0 W.heap.size (Nat.le_refl _)
  have z0 := units_reach hsz (j := 0) rfl rfl s0
  clear hA0 hval0
  simp only [List.append_nil] at hW'
  have hlt0 : ∀ x ∈ p0, x.block < W.heap.size := fun x hx => by have h := hW'.lt x (by simp [hx]); simpa using h
  refine (utfFromUnits_walk a0 c0 l0 W n0 B0 z0 k0).mono fun e W' ⟨he, hg⟩ => ?_
  subst he
  refine ⟨_, rfl, _, _, _, [], p0, [], hW', ?_, ?_, ?_, hg.frame _, fun h => by cases h⟩
  · exact trodAll_cons_mk (shut_bool Try.underlying4 _) trodAll_mk0
  · have t0 := Below.trod (by kernel_rfl) (by kernel_rfl) (of_decide_eq_true (by kernel_rfl)) h0k hg hlt0
    have ha := (trodAll_cons_mk t0 trodAll_mk0)
    simp only [List.append_nil] at ha
    exact ha
  · rfl

/-- UtfFromUnits. -/
theorem utfFromUnits_proved : Rows.UtfFromUnitsSaid :=
  OpenClaim.holds_of_wide 7 Try.f7 rfl rfl rfl rfl rfl rfl rfl ⟨rfl, rfl, rfl, rfl, rfl⟩ rfl rfl rfl rfl rfl (by kernel_rfl) Try.func7 (by kernel_rfl)
    (of_decide_eq_true (by kernel_rfl)) (by unfold Func.isWrapper; first | (rw [if_pos (by decide +kernel)]; kernel_rfl) | (rw [if_neg (by decide +kernel)]; exact ⟨rfl, rfl⟩))
    (fun os started H enc _ => utfFromUnits_lifted os started H enc)
#print axioms utfFromUnits_proved
end Go.Proofs.Ytjbhehkkigopmaa
