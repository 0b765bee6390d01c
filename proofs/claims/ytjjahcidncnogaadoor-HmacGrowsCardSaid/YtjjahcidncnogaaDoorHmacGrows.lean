/- The law HmacGrows holds, and its card: fewer bytes of an expanded key begin more of them, each 32 come of the 32 ahead. The card ties the table sha.constants to the pruned copy of the project that the seat names. -/
import Derived.Test.YtjjahcidncnogaaDoorHmacGrowsW
import Derived.Test.YtjjahcidncnogaaDoorRowsU
import Derived.Test.YtjjahcidncnogaaDoorShaOpen
import Derived.Lib.SmallJoins
namespace Go.Proofs.YtjjahcidncnogaaDoor
open Go.ChangeShapes Go.WideShapes Go.ChangeAt Go.RowKit Go.Lib

theorem own : ownKnob Tryd.prog.godebug = none := by kernel_rfl

set_option maxRecDepth 100000 in
/-- What the walk gives. -/
theorem hmacGrows_contract (H : Type) (enc : TypeId × Value → H) (W : World) (base : Nat) (args : Array Value) (ds gs : List (DataW H)) (before : List MemPlace)
    (hval0 : ∀ (j : Nat) t v, Tryd.f11.params[j]? = some t → args[j]? = some v → Value.okWide Tryd.prog W .any base t v)
    (hW : DataW.Whole enc Tryd.prog Tryd.f11.params.toList Rows.hmacGrowsSpec.vars false W args.toList ds gs before)
    (hsz0 : (DataW.weightsEach Tryd.prog (Tryd.f11.params.toList ++ (OpenSpec.ofChange Rows.hmacGrowsSpec).bare.plain.varTypes Tryd.prog) (ds ++ gs)).all (· ≤ reachBytes) = true)
    (hT : Tab W) :
    Calls Tryd.prog 11 args W fun e W' => ∃ v, e = .returned v ∧ Rows.hmacGrowsSpec.post enc Tryd.prog Tryd.f11 false true false false W args v W' := by
  have hsz := hsz0
  clear hsz0
  have hval := hval0
  have hW' := hW
  obtain ⟨p, q, hA0, hV, rfl, hfz, hnd⟩ := hW
  have hA : DataW.TrodAll enc Tryd.prog W 0 (fun _ => true) true Tryd.f11.params.toList args.toList ds p := hA0
  rw [Tryd.params11] at hA hval hsz
  obtain ⟨v0, vs0, d0, ds0, p0, q0, hargs, rfl, rfl, h0, r0⟩ := trodAll_cons hA
  obtain ⟨rfl, rfl, rfl⟩ := trodAll_nil r0
  obtain rfl : args = #[v0] := by cases args; simp_all
  obtain ⟨rfl, rfl⟩ := trodVars_none hV
  have h0k := h0
  obtain ⟨c0, c1, c2, c3, y0, y1, y2, y3, m, rfl, rfl, hp0, t0, t1, t2, t3⟩ := Go.Joins.open_agg4 Tryd.underlying100 (by kernel_rfl) (by kernel_rfl) (hval 0 100 v0 rfl rfl) h0
  obtain ⟨x, e2, hy2, wx⟩ := DataW.trod_int Tryd.underlying3 t2
  obtain ⟨y, e3, hy3, wy⟩ := DataW.trod_int Tryd.underlying3 t3
  simp only [List.cons.injEq, and_true] at e2 e3
  subst e2 e3
  obtain ⟨a1, k1, l1, rfl, n1, B1, s1, le1⟩ := bytes_cellU t0
  obtain ⟨a2, k2, l2, rfl, n2, B2, s2, le2⟩ := bytes_cellU t1
  have z1 : l1.length ≤ 140737488351232 := by
    rcases s1 with ⟨_, rfl⟩ | ⟨es, sp, hy, he⟩
    · exact Nat.zero_le _
    · have hmem := List.all_eq_true.1 hsz ((es.length + sp.length) * Tryd.prog.bytesOf 5) (DataW.weights_mem_each (j := 0) rfl rfl _ (by
        simp [DataW.weights, Tryd.underlying100, DataW.weightsEach, hy, Tryd.underlying28]))
      have hm2 : (es.length + sp.length) * Tryd.prog.bytesOf 5 ≤ reachBytes := by simpa using hmem
      rw [bytesByte] at hm2
      simp only [reachBytes] at hm2
      omega
  have z2 : l2.length ≤ 140737488351232 := by
    rcases s2 with ⟨_, rfl⟩ | ⟨es, sp, hy, he⟩
    · exact Nat.zero_le _
    · have hmem := List.all_eq_true.1 hsz ((es.length + sp.length) * Tryd.prog.bytesOf 5) (DataW.weights_mem_each (j := 0) rfl rfl _ (by
        simp [DataW.weights, Tryd.underlying100, DataW.weightsEach, hy, Tryd.underlying28]))
      have hm2 : (es.length + sp.length) * Tryd.prog.bytesOf 5 ≤ reachBytes := by simpa using hmem
      rw [bytesByte] at hm2
      simp only [reachBytes] at hm2
      omega
  clear hA0 hval0
  simp only [List.append_nil] at hW'
  have hlt0 : ∀ x ∈ p0, x.block < W.heap.size := fun x hx => by have h := hW'.lt x (by simp [hx]); simpa using h
  refine (hmacGrows_walk a1 k1 l1 a2 k2 l2 x y W hT B1 le1 z1 B2 le2 z2).mono fun e W' ⟨he, hg⟩ => ?_
  subst he
  refine ⟨_, rfl, _, _, _, [], p0, [], hW', ?_, ?_, ?_, hg.frame _, fun h => by cases h⟩
  · exact trodAll_cons_mk (shut_bool Tryd.underlying4 _) trodAll_mk0
  · have t0 := Below.trod (by kernel_rfl) (by kernel_rfl) (of_decide_eq_true (by kernel_rfl)) h0k hg hlt0
    have ha := (trodAll_cons_mk t0 trodAll_mk0)
    simp only [List.append_nil] at ha
    exact ha
  · rfl

/-- A world for the witness: the settled one, the table holding what its initialiser lays. -/
noncomputable def laidWorld (os : Os) : World :=
  { World.holding Tryd.prog os ⟨#[], #[], []⟩ with heap := ((World.holding Tryd.prog os ⟨#[], #[], []⟩).heap.modify 0 (held tabK)) }
theorem laid_met (os : Os) : laidMet Tryd.prog Rows.hmacGrowsRow.laid ((laidWorld os).forCall (fun _ _ => 0) ⟨#[], #[Value.agg #[.slice none 0 0, .slice none 0 0, .int .i64 0, .int .i64 0]], []⟩).memory :=
  laidMet_of_run' 8 (by kernel_rfl) (by kernel_rfl)
theorem hmacGrows_reads (os : Os) {H : Type} (enc : TypeId × Value → H) : ∃ places, DataW.whole enc Tryd.prog ((laidWorld os).forCall (fun _ _ => 0) ⟨#[], #[Value.agg #[.slice none 0 0, .slice none 0 0, .int .i64 0, .int .i64 0]], []⟩).memory Tryd.f11.params.toList Rows.hmacGrowsSpec.vars false (#[Value.agg #[.slice none 0 0, .slice none 0 0, .int .i64 0, .int .i64 0]] : Array Value).toList 8 = some ([.agg [.nil, .nil, .lit (.int .i64 0), .lit (.int .i64 0)]], [], places) :=
  ⟨[], by kernel_rfl⟩

set_option maxRecDepth 100000 in
theorem hmacGrows_lifted (os : Os) (started : os.Started) (H : Type) (enc : TypeId × Value → H) (F : Stop.Interp) :
    ReturnsInHanded {} Tryd.checked os 11 .any ((OpenSpec.ofChange Rows.hmacGrowsSpec).preRow enc Tryd.prog Tryd.f11 Rows.hmacGrowsRow.domain false Rows.hmacGrowsRow.laid) (((OpenSpec.ofChange Rows.hmacGrowsSpec).at F).post enc Tryd.prog Tryd.f11 false true false false) := by
  obtain ⟨places, hx⟩ := hmacGrows_reads os enc
  refine returnsInHanded_of_row (C := Tryd.checked) (s := OpenSpec.ofChange Rows.hmacGrowsSpec) own started (by kernel_rfl) Tryd.func11
    (witness_row_at (enc := enc) (C := Tryd.checked) false (laidWorld os) #[Value.agg #[.slice none 0 0, .slice none 0 0, .int .i64 0, .int .i64 0]] rfl (by kernel_rfl) (by kernel_rfl) (by kernel_rfl)
      (OpenSpec.preRow_of_cond 8 hx (by kernel_rfl) (fun k hk => by cases hk) (by kernel_rfl) (laid_met os))) ?_
  intro W base args ds gs before hval hW _ _ hsz hlaid _ _
  exact hmacGrows_contract H enc W base args ds gs before hval hW hsz (tab_of_laid hlaid)

theorem hmacGrows_said : Rows.HmacGrowsSaid :=
  OpenClaim.holds_of_cond 11 Tryd.f11 rfl rfl rfl rfl rfl rfl rfl ⟨rfl, rfl, rfl, rfl, rfl⟩ rfl rfl rfl rfl rfl (by kernel_rfl) Tryd.func11 (by kernel_rfl)
    (of_decide_eq_true (by kernel_rfl)) (by unfold Func.isWrapper; first | (rw [if_pos (by decide +kernel)]; kernel_rfl) | (rw [if_neg (by decide +kernel)]; exact ⟨rfl, rfl⟩))
    (fun os started H enc _ F => by rw [OpenClaim.pre_eq_preRow]; exact hmacGrows_lifted os started H enc F)

theorem hmacGrows_plain (f : FuncId) (fn : Func) (hf : Tryd.pinned.checked.prog.funcNamed "affidavit/affidavitlaw07.HmacGrows" = some f) (hfn : Tryd.pinned.checked.prog.funcs[f]? = some fn) :
    true = Tryd.pinned.checked.prog.looks [] ∧ ∀ (j : Nat) t, fn.params[j]? = some t → Tryd.pinned.checked.prog.wantsStandIn t = false := by
  obtain rfl : f = 11 := Option.some.inj ((show Tryd.prog.funcNamed "affidavit/affidavitlaw07.HmacGrows" = some 11 by kernel_rfl).symm.trans hf) |>.symm
  obtain rfl : fn = Tryd.f11 := (Option.some.inj (Tryd.func11.symm.trans hfn)).symm
  refine ⟨by kernel_rfl, fun j t ht => ?_⟩
  rw [Tryd.params11] at ht
  have hm : t ∈ [100] := by simpa using Array.mem_of_getElem? ht
  simp only [List.mem_cons, List.not_mem_nil, or_false] at hm
  subst hm
  exact (show Tryd.prog.wantsStandIn 100 = false by kernel_rfl)

/-- The card of HmacGrows. -/
theorem hmacGrows_card : Rows.HmacGrowsCardSaid :=
  Claim7.holds_tied_plain_at .later [] _ _ _ _ hmacGrows_said (fun _ h => by cases h) (by kernel_rfl) (fun _ h => by cases h) hmacGrows_row_tie rfl ⟨rfl, rfl⟩ (by kernel_rfl) rfl hmacGrows_plain (by kernel_rfl)
#print axioms hmacGrows_card
end Go.Proofs.YtjjahcidncnogaaDoor
