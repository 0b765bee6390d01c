/- The contract of utf's Units. -/
import Derived.Test.YtjbhehkkigopmaaUtfEachC
import Derived.Lib.QuoteBits
namespace Go.Proofs.Ytjbhehkkigopmaa
open Go.RowKit Go.Shelf Go.Lib
attribute [local go_sem] Oper.semAt_some

/-- The units of characters that have come. -/
def unitsP (pre : List (Nat × Nat)) : List Nat := pre.flatMap fun x => unitsOf x.1
def unitsR (pre : List Rn) : List Nat := unitsP (fsts pre)
theorem unitsP_snoc (pre : List (Nat × Nat)) (x : Nat × Nat) : unitsP (pre ++ [x]) = unitsP pre ++ unitsOf x.1 := by
  unfold unitsP
  rw [List.flatMap_append]
  simp
theorem unitsP_le (pre : List (Nat × Nat)) : (unitsP pre).length ≤ 2 * pre.length := unitsLen_le pre

theorem unitsR_snoc (pre : List Rn) (x : Rn) : unitsR (pre ++ [x]) = unitsR pre ++ unitsOf x.1.1 := by
  unfold unitsR
  rw [fsts_snoc, unitsP_snoc]
theorem unitsR_le (pre : List Rn) : (unitsR pre).length ≤ 2 * pre.length := by
  have h := unitsP_le (fsts pre)
  rw [fsts_len] at h
  exact h
theorem unitCells_append (a b : List Nat) : unitCells (a ++ b) = unitCells a ++ unitCells b := by simp [unitCells]
theorem units_small (p : Int) (r : Nat) (h : (r : Int) = p) (h2 : p < 65536) : unitCells (unitsOf r) = [.int .u16 p] ∧ (unitsOf r).length = 1 := by
  unfold unitsOf unitCells
  rw [if_pos (by omega), List.map_cons, List.map_nil, h]
  exact ⟨rfl, rfl⟩
theorem units_great (p : Int) (r : Nat) (h : (r : Int) = p) (h2 : ¬ p < 65536) : unitCells (unitsOf r) = [.int .u16 (55296 + (p - 65536) / 1024), .int .u16 (56320 + (p - 65536) % 1024)] ∧ (unitsOf r).length = 2 := by
  have h1 : ((55296 + (r - 65536) / 1024 : Nat) : Int) = 55296 + (p - 65536) / 1024 := by omega
  have h2' : ((56320 + (r - 65536) % 1024 : Nat) : Int) = 56320 + (p - 65536) % 1024 := by omega
  unfold unitsOf unitCells
  rw [if_neg (by omega), List.map_cons, List.map_cons, List.map_nil, h1, h2']
  exact ⟨rfl, rfl⟩

theorem mask10 (x : Int) (h0 : 0 ≤ x) (h1 : x < 2097152) : bits .and .i32 x 1023 = x % 1024 :=
  bits_mask .i32 21 (by decide) (fun n h h2 => by obtain ⟨k, rfl⟩ := Int.eq_ofNat_of_zero_le h; exact wrap_i32_small k (by omega)) 10 (by decide) x h0 (by omega)

/-- What Units tells of a right text. -/
def UnitsTold (U : List Nat) (w : World) (e : Ending) (w' : World) : Prop :=
  ∃ v, e = .returned (.tuple #[v, .nilIface]) ∧ w'.ownsRow w.heap.size 58 1 v U.length (unitCells U) ∧ Below w.heap.size w w'

set_option maxRecDepth 100000 in
set_option maxHeartbeats 4000000 in
theorem units_right (s : ByteArray) (hs : s.size ≤ 4294967296) (hr : rt s.data.toList = true) (w : World) :
    Calls Try.prog 31 #[.string s] w (UnitsTold (unitsS s.data.toList) w) := by
  obtain ⟨i0, hi0, hz0, hz1, hz2⟩ := info_parts infoUnit
  have HC := Lib.hid (count_right s hs hr)
  have HE := Lib.hid (fun n hn Bs w hBs hlt => each_stops n hn Bs s hs w hBs hlt)
  have he : eachL s.data.toList = runesOf s.data.toList 0 := by unfold eachL; rw [if_pos hr]
  have hrl := runesOf_len s.data.toList 0
  have hrl2 : (runesOf s.data.toList 0).length ≤ 4294967296 := by
    have e : s.data.toList.length = s.size := Array.length_toList
    omega
  rw [he] at HE
  have hU : unitsS s.data.toList = unitsP (runesOf s.data.toList 0) := rfl
  rw [hU] at HC ⊢
  have hsc := runesOf_scalar s.data.toList 0
  obtain ⟨R, hR⟩ : ∃ R, runesOf s.data.toList 0 = R := ⟨_, rfl⟩
  rw [hR] at HC HE hrl2 hsc ⊢
  have hul := unitsP_le R
  obtain ⟨m, hm⟩ : ∃ m, (unitsP R).length = m := ⟨_, rfl⟩
  rw [hm] at HC hul
  have HM := Lib.hid hm
  obtain ⟨q, hq⟩ : ∃ q, R.length = q := ⟨_, rfl⟩
  rw [hq] at HE HC hrl2 hul
  have HQ := Lib.hid hq
  have HSC := Lib.hid hsc
  clear he hrl hU hR hm hr hq hsc
  have hmk : ∀ w : World, (Instr.makeSlice 40 (.int .i64 0) (.int .i64 (m : Int))).run Try.prog w = .ok (.slice (some ⟨w.heap.size, 0, none⟩) 0 m) (w.alloc (.cells (madeCells #[.int .u16 0] m) 58)) := fun w => by
    have h := run_make (P := Try.prog) w 40 58 i0 (.int .u16 0) Try.underlying40 hi0 hz0 .i64 .i64 0 (m : Int) (by omega) (by omega) (by rw [hz2]; omega) (by omega)
    rw [hz1, Nat.mul_one, Int.toNat_natCast] at h
    exact h
  have hmc : (madeCells #[.int .u16 0] m).size = m * 1 := by rw [← Array.length_toList, toList_madeCells_one]; simp
  have HMC := Lib.hid hmc
  clear hmc
  refine (callsIn_wide (n := 4)).1 ?_
  refine callsIn_of_wp_marks Try.func31 rfl trivial ?_ rfl
  simp only [Try.ntmps31, List.size_toArray, List.length_cons, List.length_nil, Nat.reduceAdd, Nat.reduceSub, Array.replicate_succ, Array.replicate_zero, List.push_toArray, List.append_toArray, List.nil_append, List.cons_append]
  gi_wp2
  refine ⟨trivial, ?_⟩
  refine (callsIn_wide.2 (HC.out _)).mono ?_
  rintro e w1 ⟨rfl, hb1⟩
  gi_wp2
  refine ⟨trivial, ?_⟩
  refine (callsIn_wide.2 (each_in s _)).mono ?_
  rintro e w2 ⟨rfl, rfl⟩
  gi_wp2
  have s1 := hb1.size
  have hB0 := Lib.hid (((hb1.alloc s1 (.cells (madeCells #[.int .u16 0] m) 58)).alloc (by simp; omega) (.cells #[.slice (some ⟨w1.heap.size, 0, none⟩) 0 m] 40)).alloc (by simp; omega) (.cells #[.string s] 9))
  have bU := Boxed.new (w1.alloc (.cells (madeCells #[.int .u16 0] m) 58)) 40 (.slice (some ⟨w1.heap.size, 0, none⟩) 0 m)
  rw [World.size_alloc] at bU
  have bU2 := Lib.hid (bU.alloc (.cells #[.string s] 9))
  have bS := Boxed.new ((w1.alloc (.cells (madeCells #[.int .u16 0] m) 58)).alloc (.cells #[.slice (some ⟨w1.heap.size, 0, none⟩) 0 m] 40)) 9 (.string s)
  rw [World.size_alloc, World.size_alloc] at bS
  have BS := Lib.hid bS
  have hrow0 := Lib.hid (((World.ownsRow_made (base := w.heap.size) (e := 58) (size := 1) w1 (madeCells #[.int .u16 0] m) m s1 (by unfold maxLen; omega) HMC.out).alloc (.cells #[.slice (some ⟨w1.heap.size, 0, none⟩) 0 m] 40)).alloc (.cells #[.string s] 9))
  clear bU bS
  refine wpIn_rangeFunc_ownG rfl (by omega) (gf := 59) (lb := #[.pointer (some ⟨w1.heap.size + 1 + 1, 0, none⟩)]) rfl trivial (enters_of Try.func59 (by kernel_rfl) rfl)
    (HE.out _ (by omega) (w1.heap.size + 1 + 1) _ BS.out.cell BS.out.lt) walksK_t walksK_b (Below.refl _ _) (fun _ => rfl)
    (fun pre W => (∃ v, Boxed W (w1.heap.size + 1) 40 v ∧ W.ownsRow w.heap.size 58 1 v (unitsR pre).length (unitCells (unitsR pre)) ∧ True) ∧ Below w.heap.size w W)
    (fun _ _ _ => False)
    (OwnFrom.and (Own.from (holdsRow_own w.heap.size (w1.heap.size + 1) 40 58 1 (fun pre => (unitsR pre).length) (fun pre => unitCells (unitsR pre)) (fun _ _ => True)) _) (ownFrom_below (Nat.le_refl _) (by simp; omega)))
    (fun _ _ _ _ _ hs _ _ => hs)
    ⟨⟨_, bU2.out, hrow0.out, trivial⟩, hB0.out⟩
    (fun x => { tmps := #[.string s, undef, .slice none 0 0, .nilIface, .int .i64 q, .int .i64 m, .nilIface, .pointer (some ⟨w1.heap.size + 1, 0, none⟩), undef, .int .i32 (x.1.1 : Int), .tuple #[.int .i64 q, .int .i64 m, .nilIface], .string s,
      .tuple #[.int .i64 q, .int .i64 m, .nilIface], .int .i64 q, .int .i64 m, .nilIface, .nilIface, .bool false, undef, .int .i64 m, .slice (some ⟨w1.heap.size, 0, none⟩) 0 m, .string s,
      .func (.func 59) #[] #[.pointer (some ⟨w1.heap.size + 1 + 1, 0, none⟩)], .int .i64 (x.1.2 : Int), .int .i32 (x.1.1 : Int), undef, undef, undef, undef, undef, undef, undef, undef, undef, undef, undef, undef, undef, undef, undef, undef, undef, undef, undef, undef, undef, undef], defers := [] }) ?assign ?body ?done ?stop
  case assign =>
    intro l x W K hK
    dsimp only [encE]
    gi_wp2
    exact hK
  case body =>
    rintro l pre x W ⟨⟨v, hv, hrow, _⟩, hB⟩ hlt
    have hc := hv.cell
    have hul2 := unitsR_le pre
    have hx := x.2
    obtain ⟨p, hp⟩ : ∃ p : Int, (x.1.1 : Int) = p := ⟨_, rfl⟩
    have hp0 : 0 ≤ p := by omega
    have hp1 : p ≤ 1114111 := by omega
    have HP := Lib.hid hp
    have hsnoc := Lib.hid (unitsR_snoc pre x)
    have sB := hB.size
    obtain ⟨k, hk⟩ : ∃ k, (unitsR pre).length = k := ⟨_, rfl⟩
    have HK := Lib.hid hk
    rw [hk] at hrow hul2
    have hwd := Lib.hid (width_any p)
    rw [hp]
    clear hp hk
    by_cases hsm : p < 65536
    · rw [if_pos hsm] at hwd
      have hun := Lib.hid (units_small p x.1.1 HP.out hsm)
      gi_wp2
      refine ⟨trivial, ?_⟩
      refine (CallsIn.inRound l (callsIn_wide.2 (hwd.out _))).mono ?_
      rintro e w2 ⟨rfl, rfl⟩
      gi_wp2_with (gi_at_builtin; refine wpListIn_append_own _ rfl _ _ 40 rfl w.heap.size 58 i0 (.int .u16 0) 1 2 Try.underlying40 hi0 hz0 hz1 hz2 rfl (by decide) _ _ _ rfl (hrow.alloc _) ⟨W.heap.size, 0, none⟩ 1 1 [.int .u16 p] rfl rfl ?c1 ?c2 ?c3 ?c4 ?c5 ?_)
      case c1 => first | rfl | exact cell_one_new _ _ _
      case c2 => first | rfl | (intro u hu; simp only [List.mem_singleton] at hu; subst hu; rfl)
      case c3 => unfold maxLen; omega
      case c4 => omega
      case c5 => first | omega | (simp; omega)
      intro v' w2 hown' hgrow _
      obtain ⟨g', cap', rfl⟩ := ownsRow_succ hown'
      obtain ⟨hv1, hv2, hr2, hk2, hb2⟩ := hv.appended (by decide) hrow hB.size (by omega) hown' hgrow
      have hc1 := hv1.cell
      have hf1 := hv1.frozen
      gi_wp2
      have e := hun.out
      refine ⟨hk2.from _, hk2.walks, ⟨_, hv2, ?_, trivial⟩, hB.trans hb2⟩
      rw [hsnoc.out, unitCells_append, e.1, List.length_append, e.2, HK.out]
      exact hr2
    · rw [if_neg hsm] at hwd
      have hun := Lib.hid (units_great p x.1.1 HP.out hsm)
      have hge : 65536 ≤ p := by omega
      have hge0 : 0 ≤ p - 65536 := by omega
      have hmk2 := mask10 (p - 65536) hge0 (by omega)
      gi_wp2
      refine ⟨trivial, ?_⟩
      refine (CallsIn.inRound l (callsIn_wide.2 (hwd.out _))).mono ?_
      rintro e w2 ⟨rfl, rfl⟩
      gi_wp2_with (gi_at_builtin; refine wpListIn_append_own _ rfl _ _ 40 rfl w.heap.size 58 i0 (.int .u16 0) 1 2 Try.underlying40 hi0 hz0 hz1 hz2 rfl (by decide) _ _ _ rfl (hrow.alloc _) ⟨W.heap.size, 0, none⟩ 2 2 [.int .u16 (55296 + (p - 65536) / 1024), .int .u16 (56320 + (p - 65536) % 1024)] rfl rfl ?e1 ?e2 ?e3 ?e4 ?e5 ?_)
      case e1 => exact cells_two _ _ _
      case e2 => first | rfl | exact ⟨rfl, rfl⟩ | (intro u hu; simp only [List.mem_cons, List.not_mem_nil, or_false] at hu; rcases hu with rfl | rfl <;> rfl)
      case e3 => unfold maxLen; omega
      case e4 => omega
      case e5 => first | omega | (simp; omega)
      intro v' w2 hown' hgrow _
      obtain ⟨g', cap', rfl⟩ := ownsRow_succ hown'
      obtain ⟨hv1, hv2, hr2, hk2, hb2⟩ := hv.appended (by decide) hrow hB.size (by omega) hown' hgrow
      have hc1 := hv1.cell
      have hf1 := hv1.frozen
      gi_wp2
      have e := hun.out
      refine ⟨hk2.from _, hk2.walks, ⟨_, hv2, ?_, trivial⟩, hB.trans hb2⟩
      rw [hsnoc.out, unitCells_append, e.1, List.length_append, e.2, HK.out]
      exact hr2
  case done =>
    rintro D ys W hD hys ⟨⟨v, hv, hrow, _⟩, hB⟩ hK
    have hc := hv.cell
    gi_wp2
    refine ⟨by simp, .inl ⟨_, _, rfl, run_takeDeferred hK, ?_⟩⟩
    have e : unitsR ys = unitsP R := by unfold unitsR; rw [hys]
    rw [e] at hrow
    exact ⟨_, results_tmp2 rfl _ _ _, v, rfl, ownsRow_putObj hrow _ hK rfl, hB.trans (belowK_b (w := w) (Nat.le_refl _) W D _ _ (by simp at hD; omega) hK rfl rfl)⟩
  case stop =>
    rintro D c pre W _ _ h _
    exact h.elim
end Go.Proofs.Ytjbhehkkigopmaa
