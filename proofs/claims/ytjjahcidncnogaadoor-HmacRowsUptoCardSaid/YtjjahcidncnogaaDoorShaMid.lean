/- How a hash stands: the contract of Mid. -/
import Derived.Test.YtjjahcidncnogaaDoorShaWorks
import Derived.Test.YtjjahcidncnogaaDoorShelf
import Derived.Deep.RegionHeld3
namespace Go.Proofs.YtjjahcidncnogaaDoor
open Go.RowKit Go.Lib

/-- One operation alone may come up next; what is held is shown anew behind it. -/
theorem held_one {P : Program} {md : Region.Mode} {ops : Array Oper} {Q : Exit → Act → World → Prop} {S : World → Prop} {fuel : Nat} {listed : Array Bool} {a : Act} {w : World} (i : Nat) (o : Oper) (hr : Region.ready md ops listed = [i]) (ho : ops[i]? = some o) (hw : Region.wanted o (yielded ops a.tmps) = true)
    (h : ∀ K' : Act → World → Prop, (∀ a w, S w → (S w → wpAnyH P md ops Q S fuel (listed.setIfInBounds i true) a w) → K' a w) → Oper.wp P o a w K' Q) : wpAnyH P md ops Q S (fuel + 1) listed a w :=
  wpAnyH_ready hr (by simp) (AllReadyH.cons ho (fun K' hK => by rw [if_pos hw]; exact h K' hK.out) AllReadyH.nil)
theorem owns_keeps {w w' : World} {B n : Nat} {v : Value} {xs : List Value} (h : w.ownsRow B 5 1 v n xs) (hk : ∀ i, B ≤ i → i < w.heap.size → w'.heap[i]? = w.heap[i]?) : w'.ownsRow B 5 1 v n xs := by
  refine ⟨h.1, h.2.elim .inl fun ⟨g, cap, cur, hv, hg, hh, r⟩ => .inr ⟨g, cap, cur, hv, hg, ?_, r⟩⟩
  exact (hk g hg (Array.getElem?_eq_some_iff.1 hh).1).trans hh

theorem code_at {P : Program} {c : Code} {Q : Exit → Act → World → Prop} {a : Act} {w v : World} (h : w = v) (hc : c.wp P Q a v) : c.wp P Q a w := h ▸ hc
theorem owns_slice {w : World} {B n : Nat} {v : Value} {xs : List Value} (h : w.ownsRow B 5 1 v n xs) : ∃ q c, v = .slice q n c := by
  rcases h.2 with hn | ⟨g, cap, cur, hv, _⟩
  · exact ⟨none, 0, by rw [hn.1, hn.2]⟩
  · exact ⟨_, cap, hv⟩
/-- How a hash stands, as a value. -/
def midV (st : List Int) (bl : Int) (v : Value) : Value := .agg (st.map (Value.int .u32) ++ [.int .u64 bl, v]).toArray
theorem lenBlk : Tryd.prog.arrayLen 112 = 64 := by kernel_rfl
/-- h.rest[:held]. -/
theorem slice_rest (b d : Nat) (h : d ≤ 64) (w : World) : (Instr.sliceAt 112 (.pointer (some ⟨b, 9, none⟩)) none (some (.int .i64 (d : Int))) none).run Tryd.prog w = .ok (.slice (some ⟨b, 9, none⟩) d 64) w := by
  rw [run_sliceAt_array_h w 112 ⟨b, 9, none⟩ arrBlockD .i64 (d : Int) (by omega) (by rw [lenBlk]; omega), elemBlock w, lenBlk]
  simp only [Result.andThen, slicedAt, Int.toNat_natCast, Nat.sub_zero]
  rw [if_neg (by omega)]
  rfl
theorem run_execBuild {P : Program} {ρ : Operand → Value} {o : Oper} {w : World} {cells : Array Value} (t : TypeId) (parts : Array (Nat × Operand)) (vals : List (Nat × Value)) (ho : o.op = .build t parts) (hl : (parts.toList.map fun (i, x) => (i, ρ x)) = vals) (hc0 : P.built t vals = some cells) : (execOp ρ o).run P w = .ok (.value (.agg cells)) w := by
  have hc : P.built t (parts.map fun (i, x) => (i, ρ x)).toList = some cells := by rw [Array.toList_map, hl]; exact hc0
  unfold execOp
  simp only [ho, Sem.run_bind, run_build w t _ cells hc, Result.andThen_ok, Sem.run_pure]
theorem list8 : ∀ (st : List Int), st.length = 8 → ∃ a b c d e f g h, st = [a, b, c, d, e, f, g, h]
  | [a, b, c, d, e, f, g, h], _ => ⟨a, b, c, d, e, f, g, h, rfl⟩
theorem built_mid (st : List Int) (hs : st.length = 8) (bl : Int) (q : Option Addr) (n c : Nat) : Tryd.prog.built 34 [(0, .agg (cells32 st)), (1, .int .u64 bl), (2, .slice q n c)] = some (st.map (Value.int .u32) ++ [Value.int .u64 bl, Value.slice q n c]).toArray := by
  obtain ⟨x0, x1, x2, x3, x4, x5, x6, x7, rfl⟩ := list8 st hs
  kernel_rfl
theorem mid_one (st : List Int) (bl : Int) (q : Option Addr) (n c : Nat) : (st.map (Value.int .u32) ++ [Value.int .u64 bl, Value.slice q n c]).toArray.all (·.oneCell') = true := by
  refine all_oneCell_toArray fun v hv => ?_
  simp only [List.mem_append, List.mem_map, List.mem_cons, List.not_mem_nil, or_false] at hv
  rcases hv with ⟨x, _, rfl⟩ | rfl | rfl <;> rfl
theorem sizeMid : (Tryd.prog.info? 34).map (·.size) = some 10 := by kernel_rfl
def zeroMid : List Value := midC [0, 0, 0, 0, 0, 0, 0, 0] 0 (.slice none 0 0)
where midC (st : List Int) (bl : Int) (v : Value) : List Value := st.map (Value.int .u32) ++ [.int .u64 bl, v]

set_option maxRecDepth 100000 in
set_option maxHeartbeats 4000000 in
theorem mid_any (b : Nat) (st : List Int) (bl : Int) (rest : List UInt8) (d : Nat) (hd : d ≤ 64) (w : World) (hH : HB w b st bl rest (d : Int)) :
    Calls Tryd.prog 71 #[.pointer (some ⟨b, 0, none⟩)] w fun e w' => ∃ v, e = .returned (midV st bl v) ∧ w'.ownsRow (w.heap.size + 1) 5 1 v d (byteCells (rest.take d)) ∧ Below w.heap.size w w' := by
  obtain ⟨v1, hv1⟩ : ∃ v, v = w.alloc (.cells zeroMid.toArray 34) := ⟨_, rfl⟩
  have HV := Lib.hid hv1
  have HH1 : Hid (HB v1 b st bl rest (d : Int)) := Lib.hid (by rw [hv1]; exact hH.alloc _)
  have HR1 : Hid (v1.heap[w.heap.size]? = some (.cells zeroMid.toArray 34 (0, 0))) := Lib.hid (by rw [hv1]; exact (MapKept.heap_alloc _ _).1)
  have HG1 : Hid (Below w.heap.size w v1) := Lib.hid (by rw [hv1]; exact (Below.refl _ w).alloc (Nat.le_refl _) _)
  have HZ1 : Hid (v1.heap.size = w.heap.size + 1) := Lib.hid (by rw [hv1]; simp)
  have HLt := Lib.hid hH.lt
  have hsl := slice_rest b d hd
  have HClone : Hid (∀ W, HB W b st bl rest (d : Int) → Calls Tryd.prog 88 #[.slice (some ⟨b, 9, none⟩) d 64] W fun e w' => ∃ v', e = .returned v' ∧ w'.ownsRow W.heap.size 5 1 v' d (byteCells (rest.take d)) ∧ Below W.heap.size W w') := Lib.hid (fun W hW => by
    have h := Go.Proofs.Tryd.bytes_Clone_at ⟨b, 9, none⟩ d 64 (bI (rest.take d)) W (by rw [bI_length, List.length_take, hW.lr]; omega) (by omega) (fun i hi => by
      have hr := hW.rest i (.int .u8 (rest[i]'(by rw [hW.lr]; omega)).toNat) (by simp [byteCells, List.getElem?_eq_getElem (show i < rest.length by rw [hW.lr]; omega)])
      rw [Addr.add_lit, hr]
      have hil : i < rest.length := by rw [hW.lr]; omega
      simp [bI, List.getD_eq_getElem?_getD, hi, List.getElem?_eq_getElem hil])
    refine h.mono ?_
    rintro e w' ⟨v', he, ho, -, hb⟩
    refine ⟨v', he, ?_, hb⟩
    have e1 : (bI (rest.take d)).map (Value.int .u8) = byteCells (rest.take d) := by unfold bI byteCells; rw [List.map_map]; rfl
    rw [← e1]
    exact ho)
  clear hv1 hH
  go_enter Tryd.func71, Tryd.ntmps71
  go_wp2_with fail
  refine code_at HV.out.symm ?_
  refine wp_region_held_drew (S := fun w' => HB w' b st bl rest (d : Int)) (by kernel_rfl) (HH1.out.drewN 1) (fun hHeld => ?_)
  refine wpAnyH_take (i := 0) (v := .pointer (some ⟨b, 0, none⟩)) rfl (by kernel_rfl) (by kernel_rfl) (by kernel_rfl) (fun _ _ _ h => h) (Or.inl ⟨rfl, fun w _ => by go_simp⟩) hHeld ?_
  refine wpAnyH_take (i := 1) (v := .pointer (some ⟨b, 0, none⟩)) rfl (by kernel_rfl) (by kernel_rfl) (by kernel_rfl) (fun _ _ _ h => h) (Or.inl ⟨rfl, fun w _ => by go_simp⟩) hHeld ?_
  refine wpAnyH_take (i := 2) (v := .pointer (some ⟨b, 0, none⟩)) rfl (by kernel_rfl) (by kernel_rfl) (by kernel_rfl) (fun _ _ _ h => h) (Or.inl ⟨rfl, fun w _ => by go_simp⟩) hHeld ?_
  refine wpAnyH_take (i := 3) (v := .agg (cells32 st)) rfl (by kernel_rfl) (by kernel_rfl) (by kernel_rfl) (fun _ _ _ h => h) (Or.inl ⟨rfl, fun w h => run_execLoad _ _ rfl (run_loadAt_mid w b 0 26 (st.map (Value.int .u32)) _ h.state Tryd.underlying26 rfl (by rw [List.length_map, h.ls]; exact sizeState))⟩) hHeld ?_
  refine wpAnyH_take (i := 4) (v := .pointer (some ⟨b, 0, none⟩)) rfl (by kernel_rfl) (by kernel_rfl) (by kernel_rfl) (fun _ _ _ h => h) (Or.inl ⟨rfl, fun w _ => by go_simp⟩) hHeld ?_
  refine wpAnyH_take (i := 5) (v := .pointer (some ⟨b, 0, none⟩)) rfl (by kernel_rfl) (by kernel_rfl) (by kernel_rfl) (fun _ _ _ h => h) (Or.inl ⟨rfl, fun w _ => by go_simp⟩) hHeld ?_
  refine wpAnyH_take (i := 6) (v := .pointer (some ⟨b, 8, none⟩)) rfl (by kernel_rfl) (by kernel_rfl) (by kernel_rfl) (fun _ _ _ h => h) (Or.inl ⟨rfl, fun w _ => by go_simp⟩) hHeld ?_
  refine wpAnyH_take (i := 7) (v := .int .u64 bl) rfl (by kernel_rfl) (by kernel_rfl) (by kernel_rfl) (fun _ _ _ h => h) (Or.inl ⟨rfl, fun w h => by have c := h.blocks; go_simp⟩) hHeld ?_
  refine wpAnyH_take (i := 8) (v := .pointer (some ⟨b, 0, none⟩)) rfl (by kernel_rfl) (by kernel_rfl) (by kernel_rfl) (fun _ _ _ h => h) (Or.inl ⟨rfl, fun w _ => by go_simp⟩) hHeld ?_
  refine wpAnyH_take (i := 9) (v := .pointer (some ⟨b, 0, none⟩)) rfl (by kernel_rfl) (by kernel_rfl) (by kernel_rfl) (fun _ _ _ h => h) (Or.inl ⟨rfl, fun w _ => by go_simp⟩) hHeld ?_
  refine wpAnyH_take (i := 10) (v := .pointer (some ⟨b, 9, none⟩)) rfl (by kernel_rfl) (by kernel_rfl) (by kernel_rfl) (fun _ _ _ h => h) (Or.inl ⟨rfl, fun w _ => by go_simp⟩) hHeld ?_
  refine wpAnyH_take (i := 11) (v := .pointer (some ⟨b, 0, none⟩)) rfl (by kernel_rfl) (by kernel_rfl) (by kernel_rfl) (fun _ _ _ h => h) (Or.inl ⟨rfl, fun w _ => by go_simp⟩) hHeld ?_
  refine wpAnyH_take (i := 12) (v := .pointer (some ⟨b, 0, none⟩)) rfl (by kernel_rfl) (by kernel_rfl) (by kernel_rfl) (fun _ _ _ h => h) (Or.inl ⟨rfl, fun w _ => by go_simp⟩) hHeld ?_
  refine wpAnyH_take (i := 13) (v := .pointer (some ⟨b, 73, none⟩)) rfl (by kernel_rfl) (by kernel_rfl) (by kernel_rfl) (fun _ _ _ h => h) (Or.inl ⟨rfl, fun w _ => by go_simp⟩) hHeld ?_
  refine wpAnyH_take (i := 14) (v := .int .i64 (d : Int)) rfl (by kernel_rfl) (by kernel_rfl) (by kernel_rfl) (fun _ _ _ h => h) (Or.inl ⟨rfl, fun w h => by have c := h.held; go_simp⟩) hHeld ?_
  refine wpAnyH_take (i := 15) (v := .slice (some ⟨b, 9, none⟩) d 64) rfl (by kernel_rfl) (by kernel_rfl) (by kernel_rfl) (fun _ _ _ h => h) (Or.inl ⟨rfl, fun w _ => by go_simp⟩) hHeld ?_
  simp only [Act.put, List.setIfInBounds_toArray]
  refine held_one 16 _ (by kernel_rfl) rfl rfl fun K hK => ?_
  go_simp
  refine (HClone.out _ hHeld).mono ?_
  rintro e w1 ⟨v', rfl, ho, hb1⟩
  show K _ _
  have hb1' : Below v1.heap.size v1.drew w1 := hb1
  have HO : Hid (w1.ownsRow (w.heap.size + 1) 5 1 v' d (byteCells (rest.take d))) := Lib.hid (by rw [← HZ1.out]; exact ho)
  have HR2 : Hid (w1.heap[w.heap.size]? = some (.cells zeroMid.toArray 34 (0, 0))) := Lib.hid ((hb1'.block _ (by rw [HZ1.out]; omega)).trans HR1.out)
  have HG2 : Hid (Below w.heap.size w w1) := Lib.hid ((below_drawn 1 HG1.out).trans (hb1'.mono HG1.out.size))
  have hH2 : HB w1 b st bl rest (d : Int) := hHeld.keep hb1' (by rw [HZ1.out]; have := HLt.out; omega)
  clear ho hb1 hb1' hHeld
  refine hK _ _ hH2 (fun hHeld => ?_)
  clear hK K
  obtain ⟨q, cq, rfl⟩ := owns_slice HO.out
  refine wpAnyH_take (i := 17) (v := midV st bl (.slice q d cq)) rfl (by kernel_rfl) (by kernel_rfl) (by kernel_rfl) (fun _ _ _ h => h) (Or.inl ⟨rfl, fun w _ => run_execBuild _ _ [(0, .agg (cells32 st)), (1, .int .u64 bl), (2, .slice q d cq)] rfl rfl (built_mid st hHeld.ls bl q d cq)⟩) hHeld ?_
  show wpAnyH _ _ _ _ _ _ _ { tmps := _, defers := _ } _
  simp only [List.setIfInBounds_toArray, List.set_cons_zero, List.set_cons_succ]
  refine held_one 18 _ (by kernel_rfl) rfl rfl fun K hK => ?_
  have hl8 := hHeld.ls
  refine wp_store_row 34 (.tmp 2) (.tmp 23) rfl w.heap.size (st.map (Value.int .u32) ++ [Value.int .u64 bl, Value.slice q d cq]).toArray rfl rfl 34 _ HR2.out (by rw [List.size_toArray, List.length_append, List.length_map, hl8]; exact sizeMid) (by rw [List.size_toArray, List.size_toArray, List.length_append, List.length_map, hl8]; rfl) (mid_one st bl q d cq) ?_
  have hH3 : HB (w1.setRow w.heap.size (st.map (Value.int .u32) ++ [Value.int .u64 bl, Value.slice q d cq]).toArray) b st bl rest (d : Int) := ⟨(setRow_other w1 _ b _ (by have := HLt.out; omega)).trans hHeld.heap, hHeld.ls, hHeld.lr⟩
  have HV3 : Hid ((w1.setRow w.heap.size (st.map (Value.int .u32) ++ [Value.int .u64 bl, Value.slice q d cq]).toArray).heap[w.heap.size]? = some (.cells (st.map (Value.int .u32) ++ [Value.int .u64 bl, Value.slice q d cq]).toArray 34 (0, 0))) := Lib.hid (setRow_heap w1 _ _ _ _ _ HR2.out)
  have HG3 : Hid (Below w.heap.size w (w1.setRow w.heap.size (st.map (Value.int .u32) ++ [Value.int .u64 bl, Value.slice q d cq]).toArray)) := Lib.hid (HG2.out.trans ⟨rfl, rfl, rfl, by simp, fun k hk => setRow_other w1 _ k _ (by omega)⟩)
  have HO3 : Hid ((w1.setRow w.heap.size (st.map (Value.int .u32) ++ [Value.int .u64 bl, Value.slice q d cq]).toArray).ownsRow (w.heap.size + 1) 5 1 (.slice q d cq) d (byteCells (rest.take d))) := Lib.hid (owns_keeps HO.out fun i hi _ => setRow_other w1 _ i _ (by omega))
  refine hK _ _ hH3 (fun hHeld => ?_)
  clear hK K hH3
  simp only [Act.put]
  refine wpAnyH_done (by kernel_rfl) ?_ _
  go_wp2_with fail
  exact bodyPost_ret (results_cell_row rfl _ _ w.heap.size 34 _ (0, 0) _ rfl HV3.out Tryd.underlying34 rfl (by rw [List.size_toArray, List.length_append, List.length_map, hl8]; exact sizeMid)) rfl ⟨_, rfl, HO3.out, HG3.out⟩
end Go.Proofs.YtjjahcidncnogaaDoor
