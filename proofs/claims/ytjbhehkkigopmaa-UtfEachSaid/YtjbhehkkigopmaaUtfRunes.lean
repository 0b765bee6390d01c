/- The contract of affidavitref03's Runes. -/
import Derived.Test.YtjbhehkkigopmaaUtfRunesP
import Derived.Test.YtjbhehkkigopmaaUtfRef
import Derived.Test.YtjbhehkkigopmaaRowB
import Derived.Test.YtjbhehkkigopmaaUtfRefEnc
import Derived.Lib.OwnKind
namespace Go.Proofs.Ytjbhehkkigopmaa
open Go.RowKit Go.Lib

theorem infoRune : (Try.prog.info? 21).map (fun i => (i.zero, i.size, i.bytes)) = some (some (.int .i32 0), 1, 4) := by kernel_rfl
theorem infoInt : (Try.prog.info? 3).map (fun i => (i.zero, i.size, i.bytes)) = some (some (.int .i64 0), 1, 8) := by kernel_rfl

theorem rows_apart {w : World} {B e e' : Nat} {v v' : Value} {n n' : Nat} {xs xs' : List Value} (h : w.ownsRow B e 1 v n xs) (h' : w.ownsRow B e' 1 v' n' xs') (he : e ≠ e') : v'.ownBlock = none ∨ v'.ownBlock ≠ v.ownBlock := by
  cases hv : v'.ownBlock with
  | none => exact .inl rfl
  | some g =>
    refine .inr fun hc => he ?_
    obtain ⟨c, fz, h1⟩ := ownsRow_kind h' g hv
    obtain ⟨c', fz', h2⟩ := ownsRow_kind h g hc.symm
    rw [h1] at h2
    simp only [Option.some.injEq, Obj.cells.injEq] at h2
    exact h2.2.1.symm

/-- What Runes answers. -/
def RunesOut (R : List (Nat × Nat)) (w : World) (e : Ending) (w' : World) : Prop :=
  ∃ v1 v2, e = .returned (.tuple #[v1, v2]) ∧ w'.ownsRow w.heap.size 21 1 v1 R.length (R.map fun x => Value.int .i32 (x.1 : Int)) ∧ w'.ownsRow w.heap.size 3 1 v2 R.length (R.map fun x => Value.int .i64 (x.2 : Int)) ∧ Below w.heap.size w w'

set_option maxRecDepth 100000 in
set_option maxHeartbeats 8000000 in
theorem refRunes_any (s : ByteArray) (hs : s.size ≤ 4294967296) (w : World) :
    Calls Try.prog 23 #[.string s] w (RunesOut (runesOf s.data.toList 0) w) := by
  obtain ⟨i0, hi0, hz0, hz1, hz2⟩ := info_parts infoRune
  obtain ⟨j0, hj0, hy0, hy1, hy2⟩ := info_parts infoInt
  have hlen : s.data.toList.length = s.size := Array.length_toList
  obtain ⟨l, hl⟩ : ∃ l, s.data.toList = l := ⟨_, rfl⟩
  have HO := Lib.hid (fun (p r n : Nat) (hp : p < s.size) (hf : formAt (l.drop p) = .ok r n) w => at_ok_any s (by omega) p hp r n (by rw [hl]; exact hf) w)
  have HB := Lib.hid (fun (p k : Nat) (hp : p < s.size) (hf : formAt (l.drop p) = .byte k) w => at_byte_any s (by omega) p hp k (by rw [hl]; exact hf) w)
  have HC := Lib.hid (fun (p : Nat) (hp : p < s.size) (hf : formAt (l.drop p) = .cut) w => at_cut_any s (by omega) p hp (by rw [hl]; exact hf) w)
  rw [hl] at hlen ⊢
  have HL := Lib.hid hlen
  obtain ⟨R, hR⟩ : ∃ R, runesOf l 0 = R := ⟨_, rfl⟩
  rw [hR]
  have HR := Lib.hid hR
  clear hl hlen hR
  go_enter Try.func23, Try.ntmps23
  go_wp2_with fail
  go_loopw [4, 5, 6] (fun v1 v2 v wr => ∃ (i : Nat) (xs : List (Nat × Nat)), i ≤ s.size ∧ v = .int .i64 i ∧ xs.length ≤ i ∧ Hid (xs ++ runesOf (l.drop i) i = R) ∧
    wr.ownsRow w.heap.size 21 1 v1 xs.length (xs.map fun x => Value.int .i32 (x.1 : Int)) ∧ wr.ownsRow w.heap.size 3 1 v2 xs.length (xs.map fun x => Value.int .i64 (x.2 : Int)) ∧ Below w.heap.size w wr) (fun _ _ v _ => s.size - (intOf v).toNat)
  case atStart => exact ⟨0, [], Nat.zero_le _, rfl, Nat.le_refl _, HR, World.ownsRow_nil _ _ _ _, World.ownsRow_nil _ _ _ _, Below.refl _ _⟩
  case round =>
    obtain ⟨i, xs, hi, rfl, hxs, hk, ho1, ho2, hb⟩ := hrel
    have sb := hb.size
    by_cases hlt : i < s.size
    · cases hf : formAt (l.drop i) with
      | ok q n =>
        obtain ⟨h1, h2, h3⟩ := form_pos hf
        rw [List.length_drop, HL.out] at h3
        have HA := Lib.hid (HO.out i q n hlt hf)
        have hk2 := hk.out
        rw [runesOf_ok hf, List.drop_drop] at hk2
        have HK := Lib.hid hk2
        clear hf hk hk2
        go_wp2_with fail
        refine (HA.out _).mono ?_
        rintro e w1 ⟨rfl, rfl⟩
        obtain ⟨wo, rfl⟩ : ∃ wo : World, wo = wr := ⟨_, rfl⟩
        go_wp2_with (at_builtin; refine wpList_append_own _ rfl (.tmp 27) (.tmp 29) 36 rfl w.heap.size 21 i0 (.int .i32 0) 1 4 Try.underlying36 hi0 hz0 hz1 hz2 rfl (by decide) _ _ _ rfl (ho1.alloc _) ⟨wo.heap.size, 0, none⟩ 1 1 [.int .i32 (q : Int)] rfl rfl ?c1 ?c2 ?c3 ?c4 ?c5 ?_)
        case c1 => exact cells_one _ _
        case c2 => intro u hu; simp only [List.mem_singleton] at hu; subst hu; rfl
        case c3 => unfold maxLen; omega
        case c4 => omega
        case c5 => simp; omega
        intro v1' w2 ho1' hgrow _
        have hap := rows_apart (ho1.alloc (.cells #[.int .i32 (q : Int)] 21)) (ho2.alloc (.cells #[.int .i32 (q : Int)] 21)) (by decide)
        have ho2' := (ho2.alloc (.cells #[.int .i32 (q : Int)] 21)).kept hgrow hap
        have hb2 := (hb.alloc (by omega) _).grown hgrow (by simp; omega) (fun k hk => (ho1.lt k hk).1)
        have s2 := hb2.size
        clear hgrow ho1 ho2 hap
        go_wp2_with (at_builtin; refine wpList_append_own _ rfl (.tmp 31) (.tmp 33) 37 rfl w.heap.size 3 j0 (.int .i64 0) 1 8 Try.underlying37 hj0 hy0 hy1 hy2 rfl (by decide) _ _ _ rfl (ho2'.alloc _) ⟨w2.heap.size, 0, none⟩ 1 1 [.int .i64 (i : Int)] rfl rfl ?d1 ?d2 ?d3 ?d4 ?d5 ?_)
        case d1 => exact cells_one _ _
        case d2 => intro u hu; simp only [List.mem_singleton] at hu; subst hu; rfl
        case d3 => unfold maxLen; omega
        case d4 => omega
        case d5 => simp; omega
        intro v2' w3 ho3 hgrow2 _
        have hap := rows_apart (ho2'.alloc (.cells #[.int .i64 (i : Int)] 3)) (ho1'.alloc (.cells #[.int .i64 (i : Int)] 3)) (by decide)
        have ho4 := (ho1'.alloc (.cells #[.int .i64 (i : Int)] 3)).kept hgrow2 hap
        have hb3 := (hb2.alloc (by omega) _).grown hgrow2 (by simp; omega) (fun k hk => (ho2'.lt k hk).1)
        clear hgrow2 ho2' ho1' hap
        go_wp2_with fail
        go_roundw
        case rel =>
          refine ⟨i + n, xs ++ [(q, i)], by omega, by go_num, by rw [List.length_append, List.length_singleton]; omega, ?_, ?_, ?_, hb3⟩
          · refine Lib.hid ?_
            rw [List.append_assoc]
            exact HK.out
          · rw [List.length_append, List.length_singleton, List.map_append]; exact ho4
          · rw [List.length_append, List.length_singleton, List.map_append]; exact ho3
        case measure => simp [intOf]; omega
      | byte k =>
        have HA := Lib.hid (HB.out i k hlt hf)
        have hk2 := hk.out
        rw [runesOf_stop (by intro r n h; rw [hf] at h; cases h), List.append_nil] at hk2
        subst hk2
        clear hf hk
        go_wp2_with fail
        refine (HA.out _).mono ?_
        rintro e w1 ⟨rfl, rfl⟩
        go_wp2_with fail
        go_returns
        exact ⟨_, _, rfl, ho1, ho2, hb⟩
      | cut =>
        have HA := Lib.hid (HC.out i hlt hf)
        have hk2 := hk.out
        rw [runesOf_stop (by intro r n h; rw [hf] at h; cases h), List.append_nil] at hk2
        subst hk2
        clear hf hk
        go_wp2_with fail
        refine (HA.out _).mono ?_
        rintro e w1 ⟨rfl, rfl⟩
        go_wp2_with fail
        go_returns
        exact ⟨_, _, rfl, ho1, ho2, hb⟩
    · have hk2 := hk.out
      rw [List.drop_of_length_le (by rw [HL.out]; omega), runesOf_nil, List.append_nil] at hk2
      subst hk2
      clear hk
      go_wp2_with fail
      go_returns
      exact ⟨_, _, rfl, ho1, ho2, hb⟩
end Go.Proofs.Ytjbhehkkigopmaa
