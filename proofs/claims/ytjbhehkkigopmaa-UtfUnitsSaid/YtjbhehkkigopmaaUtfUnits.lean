/- The law UtfUnits holds: the units of a right text are those that the document's own reckoning gives; FromUnits gives the text back; the row that Units hands out is the caller's alone; a wrong text is refused where Check says. Of texts of more than 2^31 - 1 bytes the law asks nothing. -/
import Derived.Test.YtjbhehkkigopmaaSameU
import Derived.Test.YtjbhehkkigopmaaUtfDecodes
import Derived.Test.YtjbhehkkigopmaaSpot3
namespace Go.Proofs.Ytjbhehkkigopmaa
open Go.ChangeMaps Go.ChangeShapes Go.WideShapes Go.ChangeAt Go.RowKit Go.Lib Go.Joins

theorem units_back {l : List UInt8} (hr : rt l = true) : fromVal (unitsS l) = .tuple #[.string ⟨l.toArray⟩, .nilIface] ∧ ∀ x ∈ unitsS l, x < 65536 := by
  have hsc := runesOf_scalar l 0
  have hm : ∀ c ∈ (runesOf l 0).map Prod.fst, scalar c := by
    intro c hc
    obtain ⟨x, hx, rfl⟩ := List.mem_map.1 hc
    exact hsc x hx
  have e : unitsS l = ((runesOf l 0).map Prod.fst).flatMap unitsOf := by unfold unitsS; rw [flat_fst]
  rw [e]
  constructor
  · unfold fromVal
    rw [rdU_units _ hm]
    simp only
    rw [if_pos True.intro, text_runes (forms_of_rt hr)]
  · intro x hx
    obtain ⟨c, hc, hxc⟩ := List.mem_flatMap.1 hx
    have h := hm c hc
    unfold scalar at h
    unfold unitsOf at hxc
    split at hxc <;> simp at hxc <;> omega

theorem sliceElemU : Try.prog.underlying 40 = some (.slice (Try.prog.elem 40)) := by kernel_rfl
theorem sliceSizeU (w : World) : (sizeOf (Try.prog.elem 40)).run Try.prog w = .ok 1 w := by kernel_rfl
theorem slice_toU (a : Option Addr) (n cap k : Nat) (hk : k ≤ cap) (ha : a = none ∨ ∃ g, a = some ⟨g, 0, none⟩) (w : World) :
    (Instr.sliceAt 40 (.slice a n cap) none (some (.int .i64 (k : Int))) none).run Try.prog w = .ok (.slice a k cap) w := by
  rw [run_sliceAt_slice w 40 _ _ _ _ sliceElemU, run_slice_h w 40 a n cap sliceElemU .i64 (k : Int) (by omega) (by omega), sliceSizeU]
  simp only [Result.andThen, sliced, Int.toNat_natCast, Nat.sub_zero]
  rcases ha with rfl | ⟨g, rfl⟩
  · split <;> rfl
  · split <;> simp [Addr.add]

/-- A row of units that lies at or above block lo. -/
def RowFrom (lo : Nat) (p : Option Addr) (U : List Nat) (w : World) : Prop :=
  U ≠ [] → ∃ pb, p = some ⟨pb, 0, none⟩ ∧ lo ≤ pb ∧ pb < w.heap.size ∧ ∀ j, (h : j < U.length) → w.cell? ⟨pb, j, none⟩ = some (.int .u16 (U[j] : Int))
theorem RowFrom.row {lo : Nat} {p : Option Addr} {U : List Nat} {w : World} (h : RowFrom lo p U w) : UnitRow w.heap.size p U w := fun hne => by
  obtain ⟨pb, h1, _, h2, h3⟩ := h hne
  exact ⟨pb, 0, h1, h2, fun j hj => by rw [Nat.zero_add]; exact h3 j hj⟩
theorem RowFrom.set {lo : Nat} {p : Option Addr} {U : List Nat} {w : World} (h : RowFrom lo p U w) {g : Nat} (hg : g < lo) (i : Nat) (v : Value) : RowFrom lo p U (w.setCell ⟨g, i, none⟩ v) := fun hne => by
  obtain ⟨pb, h1, h0, h2, h3⟩ := h hne
  refine ⟨pb, h1, h0, by rw [World.size_setCell]; exact h2, fun j hj => ?_⟩
  rw [World.cell?_of_block (w := w) (Below.heap_setCell _ _ _ _ (by simp only; omega))]
  exact h3 j hj
theorem RowFrom.of {w : World} {B lo : Nat} {p : Option Addr} {cap : Nat} {U : List Nat} (h : UnitRow w.heap.size p U w) (k : p = none ∧ cap = 0 ∨ ∃ g cur, p = some ⟨g, 0, none⟩ ∧ B ≤ g ∧ g < w.heap.size ∧ w.heap[g]? = some (.cells cur 58 (0, 0)) ∧ cur.size = cap ∧ cur.toList.take U.length = unitCells U) (hl : lo ≤ B) : RowFrom lo p U w := fun hne => by
  obtain ⟨pb, off, h1, h2, h3⟩ := h hne
  rcases k with ⟨rfl, _⟩ | ⟨g, cur, rfl, kB, kl, _⟩
  · cases h1
  · obtain ⟨rfl, rfl⟩ : g = pb ∧ 0 = off := by simpa using h1
    exact ⟨g, rfl, by omega, kl, fun j hj => by have e := h3 j hj; rw [Nat.zero_add] at e; exact e⟩
/-- A row whose cells, all that it has room for, can be written. -/
def Writes (lo hi : Nat) (p : Option Addr) (cap : Nat) (w : World) : Prop :=
  p = none ∧ cap = 0 ∨ ∃ g cur, p = some ⟨g, 0, none⟩ ∧ lo ≤ g ∧ g < hi ∧ w.heap[g]? = some (.cells cur 58 (0, 0)) ∧ cur.size = cap

set_option maxRecDepth 100000 in
set_option maxHeartbeats 8000000 in
theorem utfUnits_walk (s : ByteArray) (W : World) (hlen : s.size ≤ 140737488351232) :
    Calls Try.prog 6 #[.string s] W fun e w' => e = .returned (.bool true) ∧ Below W.heap.size W w' := by
  obtain ⟨n, hn⟩ : ∃ n, s.size = n := ⟨_, rfl⟩
  by_cases hbig : 2147483647 < n
  · have e1 : decide ((2147483647 : Int) < (n : Int)) = true := decide_eq_true (by omega)
    clear hlen
    go_enter Try.func6, Try.ntmps6
    go_wp2_with fail
    refine (beyond_any _ _).mono ?_
    rintro e w1 ⟨rfl, rfl⟩
    go_wp2_with fail
    go_ret
    exact ⟨rfl, Below.refl _ _⟩
  have e1 : decide ((2147483647 : Int) < (n : Int)) = false := decide_eq_false (by omega)
  have hsz : s.size ≤ 4294967296 := by omega
  have HW := Lib.hid (wrong_any s (by omega))
  have HUw := Lib.hid (fun hr => units_wrong s hsz hr)
  have HUr := Lib.hid (fun hr => units_right s hsz hr)
  have HUn := Lib.hid (refUnits_any s hsz)
  have HB := Lib.hid (fun hr => @units_back s.data.toList hr)
  have hback : (⟨s.data.toList.toArray⟩ : ByteArray) = s := rfl
  rw [hback] at HB
  unfold UnitsOut at HUn
  unfold UnitsTold at HUr
  have hll : s.data.toList.length = n := by rw [← hn]; exact Array.length_toList
  have hRl := runesOf_len s.data.toList 0
  have hUl : (unitsS s.data.toList).length ≤ 2 * (runesOf s.data.toList 0).length := unitsLen_le _
  obtain ⟨l, hl⟩ : ∃ l, s.data.toList = l := ⟨_, rfl⟩
  rw [hl] at HW HUw HUr HUn HB hll hRl hUl
  have hwrt := wrongS_rt l
  cases hrt : rt l
  · have HUw2 := Lib.hid (HUw.out hrt)
    obtain ⟨hwi, hw0⟩ := wrongAs_iface l hrt
    have d0 : (((wrongS l).1 : Int) == 0) = false := by rw [beq_eq_false_iff_ne]; omega
    have d1 : (((wrongS l).1 : Int) != 0) = true := by rw [bne_iff_ne]; omega
    generalize (wrongS l).1 = no at *
    generalize (wrongS l).2 = pl at *
    clear hwrt hrt hwi hw0 HUr HUn HB hback hl hll hRl hUl hsz hlen
    go_enter Try.func6, Try.ntmps6
    go_wp2_with fail
    refine (beyond_any _ _).mono ?_
    rintro e w1 ⟨rfl, rfl⟩
    go_wp2_with fail
    refine (HUw2.out _).mono ?_
    rintro e w1 ⟨rfl, hb1⟩
    go_wp2_with fail
    refine (HW.out _).mono ?_
    rintro e w2 ⟨rfl, rfl⟩
    go_wp2_with fail
    refine (spot_yes _ _ _).mono ?_
    rintro e w7 ⟨rfl, hb7⟩
    go_wp2_with fail
    go_ret
    exact ⟨rfl, hb1.trans (hb7.mono hb1.size)⟩
  · have hw0 : (wrongS l).1 = 0 := hwrt.1 hrt
    have HUr2 := Lib.hid (HUr.out hrt)
    obtain ⟨hfv, h16⟩ := HB.out hrt
    rw [hw0] at HW
    generalize (wrongS l).2 = pl at *
    obtain ⟨U, hU⟩ : ∃ U, unitsS l = U := ⟨_, rfl⟩
    rw [hU] at HUr2 HUn hUl hfv h16
    have hUn : U.length ≤ 4294967296 := by omega
    have HF := Lib.hid (fun q cap w hrow => fromUnits_any q cap U w hrow h16 hUn)
    rw [hfv] at HF
    have HSame := Lib.hid (fun q1 q2 c1 c2 b w h1 h2 hb => sameUnits_yes q1 q2 c1 c2 b U w h1 h2 hb (by omega))
    have HOwn := Lib.hid (fun w B v h => @own_unitRow w B v U h)
    obtain ⟨m, hm⟩ : ∃ m, U.length = m := ⟨_, rfl⟩
    rw [hm] at HUr2 HUn HF HSame HOwn hUn
    have HM := Lib.hid hm
    clear hwrt hrt hw0 HUr HUw HB hback hl hll hRl hUl hsz hlen hfv h16 hm
    go_enter Try.func6, Try.ntmps6
    go_wp2_with fail
    refine (beyond_any _ _).mono ?_
    rintro e w1 ⟨rfl, rfl⟩
    go_wp2_with fail
    refine (HUr2.out _).mono ?_
    rintro e w1 ⟨v1, rfl, ho1, hb1⟩
    obtain ⟨q1, c1, rfl, hc1, hm1, hr1, hk1⟩ := HOwn.out _ _ _ ho1
    have s1 := hb1.size
    unfold maxLen at hm1
    have R1 := Lib.hid hr1
    have K1 := Lib.hid hk1
    clear ho1 hr1 hk1
    go_wp2_with fail
    refine (HW.out _).mono ?_
    rintro e w2 ⟨rfl, rfl⟩
    go_wp2_with fail
    refine (HUn.out _).mono ?_
    rintro e w2 ⟨v2, rfl, ho2, hb2⟩
    obtain ⟨q2, c2, rfl, hc2, hm2, hr2, hk2⟩ := HOwn.out _ _ _ ho2
    have s2 := hb2.size
    have R2 := Lib.hid hr2
    clear ho2 hr2 hk2
    go_wp2_with fail
    refine (HSame.out q1 q2 c1 c2 w2.heap.size w2 ?_ R2.out (Nat.le_refl _)).mono ?_
    · exact fun hne => by
        obtain ⟨pb, off, h1, h2, h3⟩ := (R1.out.keep hb2) hne
        exact ⟨pb, off, h1, by omega, h3⟩
    rintro e w3 ⟨rfl, hb3⟩
    have s3 := hb3.size
    have g3 : Below w1.heap.size w1 w3 := hb2.trans (hb3.mono s2)
    go_wp2_with fail
    refine (HF.out _ _ _ ?_).mono ?_
    · exact fun hne => by
        obtain ⟨pb, off, h1, h2, h3⟩ := (R1.out.keep g3) hne
        exact ⟨pb, off, h1, by omega, h3⟩
    rintro e w4 ⟨rfl, hb4⟩
    have s4 := hb4.size
    have g4 : Below w1.heap.size w1 w4 := g3.trans (hb4.mono (by omega))
    go_wp2_with fail
    refine (HUr2.out _).mono ?_
    rintro e w5 ⟨v3, rfl, ho3, hb5⟩
    obtain ⟨q3, c3, rfl, hc3, hm3, hr3, hk3⟩ := HOwn.out _ _ _ ho3
    have s5 := hb5.size
    have g5 : Below w1.heap.size w1 w5 := g4.trans (hb5.mono (by omega))
    have R3 := Lib.hid hr3
    have K3 := Lib.hid hk3
    clear ho3 hr3 hk3
    have hsl := slice_toU q1 m c1 c1 (Nat.le_refl _) (by rcases K1.out with ⟨rfl, _⟩ | ⟨g, cur, rfl, _⟩; exact .inl rfl; exact .inr ⟨g, rfl⟩)
    have hW0 := Lib.hid (show Writes W.heap.size w1.heap.size q1 c1 w5 from K1.out.imp id fun ⟨g, cur, e1, e2, e3, e4, e5, _⟩ => ⟨g, cur, e1, e2, e3, (g5.block g e3).trans e4, e5⟩)
    have hR30 := Lib.hid (show RowFrom w4.heap.size q3 U w5 from RowFrom.of (R3.out) (by rw [HM.out]; exact K3.out) (Nat.le_refl _))
    have hB50 := Lib.hid (hb1.trans (g5.mono s1))
    clear hb1 hb2 hb3 hb4 hb5 g3 g4 g5
    go_wp2_with fail
    go_loopw [12] (fun v wr => ∃ i : Nat, v = .int .i64 i ∧ i ≤ c1 ∧ Hid (Writes W.heap.size w1.heap.size q1 c1 wr) ∧ Hid (RowFrom w4.heap.size q3 U wr) ∧ Hid (Below W.heap.size W wr)) (fun v _ => c1 - (RowKit.intOf v).toNat)
    case atStart => exact ⟨0, rfl, Nat.zero_le _, hW0, hR30, hB50⟩
    case round =>
      obtain ⟨i, rfl, hi, hWr, hRr, hBr⟩ := hrel
      by_cases hlt : i < c1
      · rcases hWr.out with ⟨_, h0⟩ | ⟨g, cur, rfl, hg0, hg1, hgh, hgs⟩
        · omega
        · have hc : ∃ x, cur[i]? = some x := ⟨cur[i], Array.getElem?_eq_getElem (by omega)⟩
          obtain ⟨x, hx⟩ := hc
          have hcell : wr.cell? ⟨g, i, none⟩ = some x := by rw [cell_of_heap hgh]; exact hx
          have hfz : wr.frozen? ⟨g, i, none⟩ = false := unfrozen_of_block hgh i
          have hW1 := Lib.hid (show Writes W.heap.size w1.heap.size (some ⟨g, 0, none⟩) c1 (wr.setCell ⟨g, i, none⟩ (.int .u16 1)) from .inr ⟨g, _, rfl, hg0, hg1, row_set hgh _, by rw [Array.size_setIfInBounds]; exact hgs⟩)
          have hR1 := Lib.hid (hRr.out.set (show g < w4.heap.size by omega) i (.int .u16 1))
          have hB1 := Lib.hid (hBr.out.setCell (p := ⟨g, i, none⟩) hg0 (.int .u16 1))
          clear hx hgh
          go_wp2_with fail
          go_roundw
          case rel => exact ⟨i + 1, by go_num, hlt, hW1, hR1, hB1⟩
          case measure => simp [RowKit.intOf]; omega
      · obtain rfl : i = c1 := by omega
        have hRz := Lib.hid hRr.out.row
        go_wp2_with fail
        refine (HUn.out _).mono ?_
        rintro e w6 ⟨v4, rfl, ho4, hb6⟩
        obtain ⟨q4, c4, rfl, hc4, hm4, hr4, hk4⟩ := HOwn.out _ _ _ ho4
        have s6 := hb6.size
        have R4 := Lib.hid hr4
        clear ho4 hr4 hk4
        go_wp2_with fail
        refine (HSame.out q3 q4 c3 c4 w6.heap.size w6 ?_ R4.out (Nat.le_refl _)).mono ?_
        · exact fun hne => by
            obtain ⟨pb, off, h1, h2, h3⟩ := (hRz.out.keep hb6) hne
            exact ⟨pb, off, h1, by omega, h3⟩
        rintro e w7 ⟨rfl, hb7⟩
        go_wp2_with fail
        go_ret
        exact ⟨rfl, hBr.out.trans ((hb6.trans (hb7.mono s6)).mono hBr.out.size)⟩

set_option maxRecDepth 100000 in
theorem utfUnits_lifted (os : Os) (started : os.Started) (H : Type) (enc : TypeId × Value → H) :
    ReturnsInHanded {} Try.checked os 6 .any (Rows.utfUnitsSpec.pre6 enc Try.prog Try.f6 Rows.utfUnitsRow.domain false) (Rows.utfUnitsSpec.post enc Try.prog Try.f6 false true false false) := by
  refine returnsInHanded_of_change_sized (C := Try.checked) own started (by kernel_rfl) Try.func6
    (ChangeSpec.witness6 (enc := enc) (C := Try.checked) false ⟨#[], #[.string ⟨#[]⟩], []⟩ 8 (by kernel_rfl) (by kernel_rfl) (by kernel_rfl) (by kernel_rfl)) ?_
  intro W base args ds gs before hval0 hW _ hsz0 _
  have hsz : (DataW.weightsEach Try.prog (Try.f6.params.toList ++ Rows.utfUnitsSpec.plain.varTypes Try.prog) (ds ++ gs)).all (· ≤ reachBytes) = true := hsz0
  clear hsz0
  have hval : ∀ (j : Nat) t v, Try.f6.params[j]? = some t → args[j]? = some v → Value.okWide Try.prog W .any base t v := hval0
  have hW' := hW
  obtain ⟨p, q, hA0, hV, rfl, hfz, hnd⟩ := hW
  have hA : DataW.TrodAll enc Try.prog W 0 (fun _ => true) true Try.f6.params.toList args.toList ds p := hA0
  rw [Try.params6] at hA hval hsz
  obtain ⟨v0, vs0, d0, ds0, p0, q0, hargs, rfl, rfl, h0, r0⟩ := trodAll_cons hA
  obtain ⟨rfl, rfl, rfl⟩ := trodAll_nil r0
  obtain rfl : args = #[v0] := by cases args; simp_all
  obtain ⟨rfl, rfl⟩ := trodVars_none hV
  obtain ⟨s0, rfl, rfl, rfl, m0⟩ := open_string Try.underlying9 (hval 0 9 v0 rfl rfl) h0
  have z0 : s0.size ≤ 140737488351232 := by have h := sized_string hsz (j := 0) rfl rfl; simp only [Array.length_toList, reachBytes] at h; exact h
  clear hA0 hval0
  simp only [List.append_nil] at hW'
  refine (utfUnits_walk s0 W z0).mono fun e W' ⟨he, hg⟩ => ?_
  subst he
  refine ⟨_, rfl, _, _, _, [], [], [], hW', ?_, ?_, ?_, hg.frame _, fun h => by cases h⟩
  · exact trodAll_cons_mk (shut_bool Try.underlying4 _) trodAll_mk0
  · exact (trodAll_cons_mk (shut_string Try.underlying9 m0) trodAll_mk0)
  · rfl

/-- UtfUnits. -/
theorem utfUnits_proved : Rows.UtfUnitsSaid :=
  OpenClaim.holds_of_wide 6 Try.f6 rfl rfl rfl rfl rfl rfl rfl ⟨rfl, rfl, rfl, rfl, rfl⟩ rfl rfl rfl rfl rfl (by kernel_rfl) Try.func6 (by kernel_rfl)
    (of_decide_eq_true (by kernel_rfl)) (by unfold Func.isWrapper; first | (rw [if_pos (by decide +kernel)]; kernel_rfl) | (rw [if_neg (by decide +kernel)]; exact ⟨rfl, rfl⟩))
    (fun os started H enc _ => utfUnits_lifted os started H enc)
#print axioms utfUnits_proved
end Go.Proofs.Ytjbhehkkigopmaa
