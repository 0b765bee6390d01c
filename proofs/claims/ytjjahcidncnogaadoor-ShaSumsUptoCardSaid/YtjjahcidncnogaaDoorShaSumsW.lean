/- ShaSums, walked. -/
import Derived.Test.YtjjahcidncnogaaDoorCopied
import Derived.Test.YtjjahcidncnogaaDoorRefSum
import Derived.Test.YtjjahcidncnogaaDoorConcat
import Derived.Test.YtjjahcidncnogaaDoorStates
namespace Go.Proofs.YtjjahcidncnogaaDoor
open Go.ChangeShapes Go.WideShapes Go.ChangeAt Go.RowKit Go.Lib

theorem Parts.at {b b' : Nat} {p : Option Addr} {N : Nat} {P : Nat → Option Addr} {C : Nat → Nat} {L : Nat → List UInt8} {w : World} (h : Parts b p N P C L w) (hb : b ≤ b') : Parts b' p N P C L w :=
  ⟨fun hN => let ⟨pb, off, hp, h1, h2⟩ := h.1 hN; ⟨pb, off, hp, by omega, h2⟩, fun i hi => let ⟨h1, h2, h3⟩ := h.2 i hi; ⟨h1.at hb hb, h2, h3⟩⟩
theorem cat_elem (L : Nat → List UInt8) (N : Nat) : ∀ i, i < N → (L i).length ≤ (cat L N).length := by
  induction N with
  | zero => intro i hi; omega
  | succ k ih =>
    intro i hi
    simp only [cat, List.length_append]
    by_cases e : i = k
    · subst e; omega
    · have := ih i (by omega); omega

set_option maxRecDepth 100000 in
set_option maxHeartbeats 8000000 in
theorem shaSums_walk (q : Option Addr) (N cap : Nat) (P : Nat → Option Addr) (C : Nat → Nat) (L : Nat → List UInt8) (W : World) (hT : Tab W) (hnil : ∀ i, i < N → P i = none → L i = [] ∧ C i = 0) (hP : Parts W.heap.size q N P C L W) (hz : (cat L N).length + N ≤ 1048576) :
    Calls Tryd.prog 4 #[.slice q N cap] W fun e w' => e = .returned (.bool true) ∧ Below W.heap.size W w' := by
  have HT := Lib.hid hT
  have HP := Lib.hid hP
  have HLl : Hid (∀ i, i < N → (L i).length ≤ 1048576) := Lib.hid (fun i hi => by have := cat_elem L N i hi; omega)
  have HCp := Lib.hid (copied_any q N cap (by omega) P C L W hP hnil HLl.out)
  obtain ⟨D, hD⟩ : ∃ D, shaL (cat L N) = D := ⟨_, rfl⟩
  have HD := Lib.hid hD
  have HDl : Hid (D.length = 32) := Lib.hid (by rw [← hD]; exact sumI_length _ _ _)
  have HSame := Lib.hid (fun w => dig_same D HDl.out w)
  have HSt := Lib.hid (fun w => state_same firstI rfl w)
  have HFirst := Lib.hid (fun w => first_any w)
  have HRFirst := Lib.hid (fun w => refFirst_any w)
  have HZ := Lib.hid hz
  have HConcat := Lib.hid (fun u (hu : Below W.heap.size W u) => concat_any q N cap (by omega) P C L u ((hP.keep hu).at hu.size) (fun i hi h => hnil i hi h) (by omega))
  clear hT hP hnil hz hD
  go_enter Tryd.func4, Tryd.ntmps4
  go_wp2_with fail
  refine HCp.out.mono ?_
  rintro e w1 ⟨q1, c1, xs, rfl, hxs, ho1, hs1, hb1⟩
  have HG1 := Lib.hid hb1
  obtain ⟨P1, C1, hp1, -, -⟩ := hs1.parts ho1 hxs (fun i hi => by have := HLl.out i hi; omega)
  have hSum := sums_any q1 N c1 (by have := HZ.out; omega) P1 C1 L w1 (HT.out.below hb1) hp1
  rw [HD.out] at hSum
  have HSum := Lib.hid hSum
  clear ho1 hs1 hb1 hp1 hSum hxs
  go_wp2_with fail
  refine HSum.out.mono ?_
  rintro e w2 ⟨rfl, hb2⟩
  have HG2 : Hid (Below W.heap.size W w2) := Lib.hid (HG1.out.trans (hb2.mono HG1.out.size))
  have HCc := Lib.hid (HConcat.out w2 HG2.out)
  clear hb2
  unfold dig
  go_wp2_with fail
  refine HCc.out.mono ?_
  rintro e w3 ⟨v3, rfl, ho3, hb3⟩
  have HG3 : Hid (Below W.heap.size W w3) := Lib.hid (HG2.out.trans (hb3.mono HG2.out.size))
  obtain ⟨q3, c3, rfl, -, hby⟩ := owns_bytes ho3 rfl
  have hOf := refOf_any q3 c3 (cat L N) w3 hby (by have := HZ.out; omega)
  rw [HD.out] at hOf
  unfold dig at hOf HSame
  have HOf := Lib.hid hOf
  obtain ⟨n, hnn⟩ : ∃ n, (cat L N).length = n := ⟨_, rfl⟩
  rw [hnn] at HOf ⊢
  clear ho3 hb3 hby hOf hnn
  go_wp2_with fail
  refine HOf.out.mono ?_
  rintro e w4 ⟨rfl, hb4⟩
  have HG4 : Hid (Below W.heap.size W w4) := Lib.hid (HG3.out.trans (hb4.mono HG3.out.size))
  have heq := HSame.out w4
  have heq2 := HSt.out
  obtain ⟨X, hX⟩ : ∃ X, (Go.Lib.byteCells D).toArray = X := ⟨_, rfl⟩
  rw [hX] at heq ⊢
  clear hb4 hX
  go_wp2_with fail
  refine (HFirst.out _).mono ?_
  rintro e w5 ⟨rfl, hb5⟩
  have HG5 : Hid (Below W.heap.size W w5) := Lib.hid (HG4.out.trans (hb5.mono HG4.out.size))
  clear hb5
  go_wp2_with fail
  refine (HRFirst.out _).mono ?_
  rintro e w6 ⟨rfl, hb6⟩
  have HG6 : Hid (Below W.heap.size W w6) := Lib.hid (HG5.out.trans (hb6.mono HG5.out.size))
  have heq3 := heq2 w6
  clear hb6 heq2 heq
  obtain ⟨Y, hY⟩ : ∃ Y, cells32 firstI = Y := ⟨_, rfl⟩
  first | (rw [hY] at heq3 ⊢) | skip
  go_wp2_with fail
  go_ret
  exact ⟨rfl, HG6.out⟩
end Go.Proofs.YtjjahcidncnogaaDoor
