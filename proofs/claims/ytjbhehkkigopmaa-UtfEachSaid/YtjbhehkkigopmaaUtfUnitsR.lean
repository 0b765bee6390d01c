/- The contracts of affidavitref03's Units, and of utf's Check over bytes. -/
import Derived.Test.YtjbhehkkigopmaaUtfCount
namespace Go.Proofs.Ytjbhehkkigopmaa
open Go.RowKit Go.Joins Go.Lib

theorem infoUnit : (Try.prog.info? 58).map (fun i => (i.zero, i.size, i.bytes)) = some (some (.int .u16 0), 1, 2) := by kernel_rfl
def unitCells (l : List Nat) : List Value := l.map fun (x : Nat) => Value.int .u16 (x : Int)
/-- The units of the first runes. -/
def unitsTake (R : List (Nat × Nat)) (i : Nat) : List Nat := (R.take i).flatMap fun x => unitsOf x.1
theorem unitsTake_succ (R : List (Nat × Nat)) (i : Nat) (h : i < R.length) : unitsTake R (i + 1) = unitsTake R i ++ unitsOf R[i].1 := by
  unfold unitsTake
  rw [List.take_succ_eq_append_getElem h, List.flatMap_append]
  simp
theorem unitsTake_le (R : List (Nat × Nat)) (i : Nat) : (unitsTake R i).length ≤ 2 * i := by
  have h := unitsLen_le (R.take i)
  unfold unitsLen at h
  unfold unitsTake
  rw [List.length_take] at h
  omega
theorem unitsTake_all (R : List (Nat × Nat)) : unitsTake R R.length = R.flatMap fun x => unitsOf x.1 := by
  unfold unitsTake
  rw [List.take_length]

/-- What Units answers. -/
def UnitsOut (U : List Nat) (w : World) (e : Ending) (w' : World) : Prop :=
  ∃ v, e = .returned v ∧ w'.ownsRow w.heap.size 58 1 v U.length (unitCells U) ∧ Below w.heap.size w w'

set_option maxRecDepth 100000 in
set_option maxHeartbeats 8000000 in
theorem refUnits_any (s : ByteArray) (hs : s.size ≤ 4294967296) (w : World) :
    Calls Try.prog 24 #[.string s] w (UnitsOut (unitsS s.data.toList) w) := by
  obtain ⟨i0, hi0, hz0, hz1, hz2⟩ := info_parts infoUnit
  have HRun := Lib.hid (refRunes_any s hs)
  have hRl := runesOf_len s.data.toList 0
  have hsc := runesOf_scalar s.data.toList 0
  rw [Array.length_toList] at hRl
  have hRl' : (runesOf s.data.toList 0).length ≤ 4294967296 := Nat.le_trans hRl hs
  unfold unitsS
  obtain ⟨R, hR⟩ : ∃ R, runesOf s.data.toList 0 = R := ⟨_, rfl⟩
  rw [hR] at HRun hRl' hsc ⊢
  obtain ⟨m, hm⟩ : ∃ m, R.length = m := ⟨_, rfl⟩
  have HM := Lib.hid hm
  have HSC := Lib.hid hsc
  unfold RunesOut at HRun
  rw [hm] at HRun hRl'
  clear hR hRl hm hsc
  go_enter Try.func24, Try.ntmps24
  go_wp2_with fail
  refine (HRun.out _).mono ?_
  rintro e w1 ⟨v1, v2, rfl, ho1, ho2, hb⟩
  have s1 := hb.size
  clear ho2
  rcases ownsRow_forms ho1 with ⟨rfl, h0⟩ | ⟨g, cap, rfl⟩
  · have hR0 : R = [] := List.length_eq_zero_iff.1 (by rw [HM.out]; exact h0)
    subst hR0
    clear ho1
    have HH0 := Lib.hid h0
    clear h0
    go_wp2_with fail
    refine wp_loop_rounds 1 ?_
    rw [rounds_succ]
    go_wp2_with fail
    go_returns
    exact ⟨_, rfl, World.ownsRow_nil _ _ _ _, hb⟩
  · go_wp2_with fail
    go_loopw [3, 6] (fun u v wr => ∃ i : Nat, i ≤ m ∧ v = .int .i64 i ∧ wr.ownsRow w.heap.size 21 1 (.slice (some ⟨g, 0, none⟩) m cap) m (R.map fun x => Value.int .i32 (x.1 : Int)) ∧
      wr.ownsRow w.heap.size 58 1 u (unitsTake R i).length (unitCells (unitsTake R i)) ∧ Below w.heap.size w wr) (fun _ v _ => m - (intOf v).toNat)
    case atStart => exact ⟨0, Nat.zero_le _, rfl, ho1, World.ownsRow_nil _ _ _ _, hb⟩
    case round =>
      obtain ⟨i, hi, rfl, hoR, hoU, hbw⟩ := hrel
      have sb := hbw.size
      have hul := unitsTake_le R i
      by_cases hlt : i < m
      · have hiR : i < R.length := by rw [HM.out]; exact hlt
        have hcell := hoR.cells rfl i (.int .i32 (R[i].1 : Int)) (by rw [List.getElem?_map, List.getElem?_eq_getElem hiR]; rfl)
        rw [Addr.add_lit, Nat.zero_add] at hcell
        have hs := HSC.out R[i] (List.getElem_mem _)
        unfold scalar at hs
        have hsucc := unitsTake_succ R i hiR
        obtain ⟨r, hr⟩ : ∃ r, R[i].1 = r := ⟨_, rfl⟩
        rw [hr] at hcell hs hsucc
        obtain ⟨p, hp⟩ : ∃ p : Int, (r : Int) = p := ⟨_, rfl⟩
        have hp0 : 0 ≤ p := by omega
        have hp1 : p ≤ 1114111 := by omega
        have HP := Lib.hid hp
        rw [hp] at hcell
        have HSU := Lib.hid hsucc
        obtain ⟨k, hk⟩ : ∃ k, (unitsTake R i).length = k := ⟨_, rfl⟩
        have HK := Lib.hid hk
        rw [hk] at hoU hul
        have hk2 : k ≤ 2 * 4294967296 := by omega
        clear hr hs hsucc hp hk
        obtain ⟨wo, rfl⟩ : ∃ wo : World, wo = wr := ⟨_, rfl⟩
        by_cases hsm : p < 65536
        · have hun : Hid (unitCells (unitsOf r) = [.int .u16 p]) := by
            refine Lib.hid ?_
            have h := HP.out
            unfold unitsOf unitCells
            rw [if_pos (by omega), List.map_cons, List.map_nil, h]
          go_wp2_with (at_builtin; refine wpList_append_own _ rfl (.tmp 26) (.tmp 29) 40 rfl w.heap.size 58 i0 (.int .u16 0) 1 2 Try.underlying40 hi0 hz0 hz1 hz2 rfl (by decide) _ _ _ rfl (hoU.alloc _) ⟨wo.heap.size, 0, none⟩ 1 1 [.int .u16 p] rfl rfl ?c1 ?c2 ?c3 ?c4 ?c5 ?_)
          case c2 => first | rfl | (intro u hu; simp only [List.mem_singleton] at hu; subst hu; rfl)
          case c3 => unfold maxLen; omega
          case c4 => omega
          case c5 => first | omega | (simp; omega)
          intro v' w2 hoU' hgrow _
          have hap := rows_apart (hoU.alloc (.cells #[.int .u16 p] 58)) (hoR.alloc (.cells #[.int .u16 p] 58)) (by decide)
          have hoR' := (hoR.alloc (.cells #[.int .u16 p] 58)).kept hgrow hap
          have hb2 := (hbw.alloc (by omega) _).grown hgrow (by simp; omega) (fun k hk => (hoU.lt k hk).1)
          have hfin : w2.ownsRow w.heap.size 58 1 v' (unitsTake R (i + 1)).length (unitCells (unitsTake R (i + 1))) := by
            have e : unitCells (unitsTake R (i + 1)) = unitCells (unitsTake R i) ++ [.int .u16 p] := by rw [HSU.out, ← hun.out]; simp [unitCells]
            have e2 : (unitsTake R (i + 1)).length = k + 1 := by
              have := congrArg List.length e
              simp only [unitCells, List.length_map, List.length_append, List.length_singleton] at this
              rw [this, HK.out]
            rw [e, e2]
            exact hoU'
          clear hgrow hoU hoR hap hoU' hcell
          go_wp2_with fail
          go_roundw
          case rel => exact ⟨i + 1, by omega, by go_num, hoR', hfin, hb2⟩
          case measure => simp [intOf]; omega
        · have hun : Hid (unitCells (unitsOf r) = [.int .u16 (55296 + (p - 65536) / 1024), .int .u16 (56320 + (p - 65536) % 1024)]) := by
            refine Lib.hid ?_
            have h := HP.out
            have h1 : ((55296 + (r - 65536) / 1024 : Nat) : Int) = 55296 + (p - 65536) / 1024 := by omega
            have h2 : ((56320 + (r - 65536) % 1024 : Nat) : Int) = 56320 + (p - 65536) % 1024 := by omega
            unfold unitsOf unitCells
            rw [if_neg (by omega), List.map_cons, List.map_cons, List.map_nil, h1, h2]
          have hge : 65536 ≤ p := by omega
          have hge0 : 0 ≤ p - 65536 := by omega
          go_wp2_with (at_builtin; refine wpList_append_own _ rfl (.tmp 31) (.tmp 42) 40 rfl w.heap.size 58 i0 (.int .u16 0) 1 2 Try.underlying40 hi0 hz0 hz1 hz2 rfl (by decide) _ _ _ rfl (hoU.alloc _) ⟨wo.heap.size, 0, none⟩ 2 2 [.int .u16 (55296 + (p - 65536) / 1024), .int .u16 (56320 + (p - 65536) % 1024)] rfl rfl ?e1 ?e2 ?e3 ?e4 ?e5 ?_)
          case e2 => first | rfl | exact ⟨rfl, rfl⟩ | (intro u hu; simp only [List.mem_cons, List.not_mem_nil, or_false] at hu; rcases hu with rfl | rfl <;> rfl)
          case e3 => unfold maxLen; omega
          case e4 => omega
          case e5 => first | omega | (simp; omega)
          intro v' w2 hoU' hgrow _
          have hap := rows_apart (hoU.alloc (.cells #[.int .u16 (55296 + (p - 65536) / 1024), .int .u16 (56320 + (p - 65536) % 1024)] 58)) (hoR.alloc (.cells #[.int .u16 (55296 + (p - 65536) / 1024), .int .u16 (56320 + (p - 65536) % 1024)] 58)) (by decide)
          have hoR' := (hoR.alloc (.cells #[.int .u16 (55296 + (p - 65536) / 1024), .int .u16 (56320 + (p - 65536) % 1024)] 58)).kept hgrow hap
          have hb2 := (hbw.alloc (by omega) _).grown hgrow (by simp; omega) (fun k hk => (hoU.lt k hk).1)
          have hfin : w2.ownsRow w.heap.size 58 1 v' (unitsTake R (i + 1)).length (unitCells (unitsTake R (i + 1))) := by
            have e : unitCells (unitsTake R (i + 1)) = unitCells (unitsTake R i) ++ [.int .u16 (55296 + (p - 65536) / 1024), .int .u16 (56320 + (p - 65536) % 1024)] := by rw [HSU.out, ← hun.out]; simp [unitCells]
            have e2 : (unitsTake R (i + 1)).length = k + 2 := by
              have := congrArg List.length e
              simp only [unitCells, List.length_map, List.length_append, List.length_cons, List.length_nil] at this
              rw [this, HK.out]
            rw [e, e2]
            exact hoU'
          clear hgrow hoU hoR hap hoU' hcell
          go_wp2_with fail
          go_roundw
          case rel => exact ⟨i + 1, by omega, by go_num, hoR', hfin, hb2⟩
          case measure => simp [intOf]; omega
      · obtain rfl : i = m := by omega
        have hall := unitsTake_all R
        rw [HM.out] at hall
        rw [hall] at hoU
        clear hall hoR
        go_wp2_with fail
        go_returns
        exact ⟨_, rfl, hoU, hbw⟩
end Go.Proofs.Ytjbhehkkigopmaa
