/- The law BaseTurned holds: what is written is read; a letter that is turned is refused, or other bytes. Of more than 2^27 bytes and of what is no alphabet the law asks nothing. -/
import Derived.Test.YtaaiikjjfleooaaBackWalk
import Derived.Lib.SmallJoins
namespace Go.Proofs.Ytaaiikjjfleooaa
open Go.ChangeShapes Go.WideShapes Go.ChangeAt Go.RowKit Go.Lib Go.Joins

theorem own : ownKnob Try.prog.godebug = none := by kernel_rfl

set_option maxRecDepth 100000 in
theorem turned_walk (a : Int) (p : Option Addr) (cap : Nat) (l : List UInt8) (at' : Int) (c : UInt8) (w : World)
    (hn : p = none → l = []) (hB : Bytes w.heap.size w.heap.size p l w) (hlen : l.length ≤ 140737488351232) :
    Calls Try.prog 5 #[.agg #[.int .i64 a, .slice p l.length cap, .int .i64 at', .int .u8 c.toNat]] w fun e w' => e = .returned (.bool true) ∧ Below w.heap.size w w' := by
  have HK := Lib.hid (fun (u : World) (hb : Below w.heap.size w u) => back_walk a p cap l at' c u hn ((hB.keep hb).at hb.size hb.size) hlen)
  clear hn hB
  go_enter Try.func5, Try.ntmps5
  go_wp2_with fail
  have hg : Below w.heap.size w (w.alloc (.cells #[.int .i64 a, .slice p l.length cap, .int .i64 at', .int .u8 c.toNat] 44)) := by go_grown
  refine (HK.out _ hg).mono ?_
  rintro e w1 ⟨rfl, hb1⟩
  go_wp2_with fail
  go_ret
  exact ⟨rfl, hg.trans (hb1.mono hg.size)⟩

/-- A slice of bytes that came in as a field. -/
theorem bytes_field {H : Type} {enc : TypeId × Value → H} {W : World} {base : Nat} {sp : Nat → Bool} {held : Bool} {v : Value} {n : Nat} {y : DataW H × List MemPlace}
    (h : DataW.trod enc Try.prog W base sp held n 22 [v] = some y) :
    ∃ (q : Option Addr) (cap : Nat) (l : List UInt8), v = .slice q l.length cap ∧ (q = none → l = []) ∧ Bytes W.heap.size W.heap.size q l W ∧ (y.1 = .nil ∧ l = [] ∨ ∃ es sp, y.1 = .slice es sp ∧ es.length = l.length) := by
  rcases open_ints Try.underlying22 Try.underlying5 cellsByte h with ⟨hcs, hx⟩ | ⟨a, len', cap', zs, hcs, _, hl, hm, hz, hx, hcell, hwz⟩
  · simp only [List.cons.injEq, and_true] at hcs
    subst hcs hx
    exact ⟨none, 0, [], rfl, fun _ => rfl, fun h => absurd rfl h, .inl ⟨rfl, rfl⟩⟩
  · simp only [List.cons.injEq, and_true] at hcs
    subst hcs hx
    have hle : len' ≤ zs.length := by rw [hz]; split <;> omega
    have hlen : ((zs.take len').map fun n => UInt8.ofNat n.toNat).length = len' := by simp; omega
    refine ⟨some a, cap', (zs.take len').map fun n => UInt8.ofNat n.toNat, by rw [hlen], fun h => (by cases h), fun hne => ?_, .inr ⟨_, _, rfl, by rw [hlen]; simp [lits]; omega⟩⟩
    have h0 : 0 < len' := by
      rcases Nat.eq_zero_or_pos len' with h | h
      · subst h; simp at hne
      · exact h
    obtain ⟨ab, ao, spot⟩ := a
    have hspot : spot = none := by simpa [Addr.add] using World.cell?_spot (hcell 0 (by omega))
    subst hspot
    have hblk : ab < W.heap.size := by
      have hc := hcell 0 (by omega)
      rw [Addr.add_lit] at hc
      exact World.block_lt_of_cell? _ _ hc
    refine ⟨ab, ao, rfl, hblk, by omega, fun j hj => ?_⟩
    rw [hlen] at hj
    have hc := hcell j (by omega)
    rw [Addr.add_lit] at hc
    rw [hc]
    have e : zs.getD j 0 = zs[j]'(by omega) := by simp [List.getD, List.getElem?_eq_getElem (show j < zs.length by omega)]
    have hb := hwz (zs[j]'(by omega)) (List.getElem_mem _)
    simp only [List.getElem_map, List.getElem_take, e]
    simp [Lit.wf, IntKind.min, IntKind.max, IntKind.signed, IntKind.bits] at hb
    congr 2
    simp only [UInt8.toNat_ofNat']
    omega

set_option maxRecDepth 100000 in
theorem turned_lifted (os : Os) (started : os.Started) (H : Type) (enc : TypeId × Value → H) :
    ReturnsInHanded {} Try.checked os 5 .any (Rows.baseTurnedSpec.pre6 enc Try.prog Try.f5 Rows.baseTurnedRow.domain false) (Rows.baseTurnedSpec.post enc Try.prog Try.f5 false true false false) := by
  refine returnsInHanded_of_change_sized (C := Try.checked) own started (by kernel_rfl) Try.func5
    (ChangeSpec.witness6 (enc := enc) (C := Try.checked) false ⟨#[], #[.agg #[.int .i64 0, .slice none 0 0, .int .i64 0, .int .u8 0]], []⟩ 8 (by kernel_rfl) (by kernel_rfl) (by kernel_rfl) (by kernel_rfl)) ?_
  intro W base args ds gs before hval0 hW _ hsz0 _
  have hsz : (DataW.weightsEach Try.prog (Try.f5.params.toList ++ Rows.baseTurnedSpec.plain.varTypes Try.prog) (ds ++ gs)).all (· ≤ reachBytes) = true := hsz0
  clear hsz0
  have hval : ∀ (j : Nat) t v, Try.f5.params[j]? = some t → args[j]? = some v → Value.okWide Try.prog W .any base t v := hval0
  have hW' := hW
  obtain ⟨p, q, hA0, hV, rfl, hfz, hnd⟩ := hW
  have hA : DataW.TrodAll enc Try.prog W 0 (fun _ => true) true Try.f5.params.toList args.toList ds p := hA0
  rw [Try.params5] at hA hval hsz
  obtain ⟨v0, vs0, d0, ds0, p0, q0, hargs, rfl, rfl, h0, r0⟩ := trodAll_cons hA
  obtain ⟨rfl, rfl, rfl⟩ := trodAll_nil r0
  obtain rfl : args = #[v0] := by cases args; simp_all
  obtain ⟨rfl, rfl⟩ := trodVars_none hV
  have h0k := h0
  obtain ⟨c0, c1, c2, c3, y0, y1, y2, y3, m, rfl, rfl, rfl, t0, t1, t2, t3⟩ := open_agg4 Try.underlying44 (by kernel_rfl) (by kernel_rfl) (hval 0 44 v0 rfl rfl) h0
  obtain ⟨a, e0, rfl, wa⟩ := DataW.trod_int Try.underlying3 t0
  obtain ⟨at', e2, rfl, wt⟩ := DataW.trod_int Try.underlying3 t2
  obtain ⟨c, e3, rfl, wc⟩ := DataW.trod_int Try.underlying5 t3
  simp only [List.cons.injEq, and_true] at e0 e2 e3
  subst e0 e2 e3
  obtain ⟨a1, k1, l, rfl, n1, B1, s1⟩ := bytes_field t1
  have z1 : l.length ≤ 140737488351232 := by
    rcases s1 with ⟨_, rfl⟩ | ⟨es, sp, hy, he⟩
    · exact Nat.zero_le _
    · have hmem := List.all_eq_true.1 hsz ((es.length + sp.length) * Try.prog.bytesOf 5) (DataW.weights_mem_each (j := 0) rfl rfl _ (by
        simp [DataW.weights, Try.underlying44, DataW.weightsEach, hy, Try.underlying22]))
      have hm2 : (es.length + sp.length) * Try.prog.bytesOf 5 ≤ reachBytes := by simpa using hmem
      rw [bytesByte] at hm2
      simp only [reachBytes] at hm2
      omega
  have hcc : ∃ c' : UInt8, c = c'.toNat := by
    simp [Lit.wf, IntKind.min, IntKind.max, IntKind.signed, IntKind.bits] at wc
    exact ⟨UInt8.ofNat c.toNat, by rw [UInt8.toNat_ofNat']; omega⟩
  obtain ⟨c', rfl⟩ := hcc
  clear hA0 hval0
  simp only [List.append_nil, List.nil_append] at hW' h0k
  have hlt : ∀ x ∈ y1.2, x.block < W.heap.size := fun x hx => by simpa using hW'.lt x (by simpa using hx)
  refine (turned_walk a a1 k1 l at' c' W n1 B1 z1).mono fun e W' ⟨he, hg⟩ => ?_
  subst he
  refine ⟨_, rfl, _, _, _, [], y1.2, [], hW', ?_, ?_, ?_, hg.frame _, fun h => by cases h⟩
  · exact trodAll_cons_mk (shut_bool Try.underlying4 _) trodAll_mk0
  · have t0 := Below.trod (by kernel_rfl) (by kernel_rfl) (of_decide_eq_true (by kernel_rfl)) h0k hg hlt
    have ha := trodAll_cons_mk t0 trodAll_mk0
    rw [List.append_nil] at ha
    exact ha
  · rfl

/-- BaseTurned. -/
theorem baseTurned_proved : Rows.BaseTurnedSaid :=
  OpenClaim.holds_of_wide 5 Try.f5 rfl rfl rfl rfl rfl rfl rfl ⟨rfl, rfl, rfl, rfl, rfl⟩ rfl rfl rfl rfl rfl (by kernel_rfl) Try.func5 (by kernel_rfl)
    (of_decide_eq_true (by kernel_rfl)) (by unfold Func.isWrapper; first | (rw [if_pos (by decide +kernel)]; kernel_rfl) | (rw [if_neg (by decide +kernel)]; exact ⟨rfl, rfl⟩))
    (fun os started H enc _ => turned_lifted os started H enc)
#print axioms baseTurned_proved
end Go.Proofs.Ytaaiikjjfleooaa
