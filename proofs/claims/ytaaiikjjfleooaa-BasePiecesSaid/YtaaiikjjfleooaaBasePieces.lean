/- The law BasePieces holds: bytes that come piece by piece; and what a writer tells behind its End, which begins it anew. Of pieces of more than 2^27 bytes together, and of numbers beyond an alphabet's type, the law asks nothing. -/
import Derived.Test.YtaaiikjjfleooaaPiecesWalk
import Derived.Deep.Slices
namespace Go.Proofs.Ytaaiikjjfleooaa
open Go.ChangeShapes Go.WideShapes Go.ChangeAt Go.RowKit Go.Lib

theorem own : ownKnob Try.prog.godebug = none := by kernel_rfl

/-- A slice of bytes that came in as an element. -/
theorem bytes_cell {H : Type} {enc : TypeId × Value → H} {W : World} {base : Nat} {sp : Nat → Bool} {held : Bool} {v : Value} {n : Nat} {y : DataW H × List MemPlace}
    (h : DataW.trod enc Try.prog W base sp held n 22 [v] = some y) :
    ∃ (q : Option Addr) (cap : Nat) (l : List UInt8), v = .slice q l.length cap ∧ (q = none → l = [] ∧ cap = 0) ∧ Bytes W.heap.size W.heap.size q l W ∧ (y.1 = .nil ∧ l = [] ∨ ∃ es sp, y.1 = .slice es sp ∧ es.length = l.length) := by
  rcases open_ints Try.underlying22 Try.underlying5 cellsByte h with ⟨hcs, hx⟩ | ⟨a, len', cap', zs, hcs, _, hl, hm, hz, hx, hcell, hwz⟩
  · simp only [List.cons.injEq, and_true] at hcs
    subst hcs hx
    exact ⟨none, 0, [], rfl, fun _ => ⟨rfl, rfl⟩, fun h => absurd rfl h, .inl ⟨rfl, rfl⟩⟩
  · simp only [List.cons.injEq, and_true] at hcs
    subst hcs hx
    have hle : len' ≤ zs.length := by rw [hz]; split <;> omega
    have hlen : ((zs.take len').map fun n => UInt8.ofNat n.toNat).length = len' := by simp; omega
    refine ⟨some a, cap', (zs.take len').map fun n => UInt8.ofNat n.toNat, by rw [hlen], fun h => (by cases h), fun hne => ?_, .inr ⟨_, _, rfl, by rw [hlen]; simp [lits]; omega⟩⟩
    have h0 : 0 < len' := by
      rcases Nat.eq_zero_or_pos len' with h | h
      · subst h; simp at hne
      · exact h
    obtain ⟨ab, ao, spot⟩ := a
    have hspot : spot = none := by simpa [Addr.add] using World.cell?_spot (hcell 0 (by omega))
    subst hspot
    have hblk : ab < W.heap.size := by
      have hc := hcell 0 (by omega)
      rw [Addr.add_lit] at hc
      exact World.block_lt_of_cell? _ _ hc
    refine ⟨ab, ao, rfl, hblk, by omega, fun j hj => ?_⟩
    rw [hlen] at hj
    have hc := hcell j (by omega)
    rw [Addr.add_lit] at hc
    rw [hc]
    have e : zs.getD j 0 = zs[j]'(by omega) := by simp [List.getD, List.getElem?_eq_getElem (show j < zs.length by omega)]
    have hb := hwz (zs[j]'(by omega)) (List.getElem_mem _)
    simp only [List.getElem_map, List.getElem_take, e]
    simp [Lit.wf, IntKind.min, IntKind.max, IntKind.signed, IntKind.bits] at hb
    congr 2
    simp only [UInt8.toNat_ofNat']
    omega

theorem mem_weightsAll {H : Type} {P : Program} {e : TypeId} {x : Nat} : ∀ {l : List (DataW H)} {d : DataW H}, d ∈ l → x ∈ d.weights P e → x ∈ DataW.weightsAll P e l
  | [], _, h, _ => by cases h
  | a :: l, d, h, hx => by
    simp only [DataW.weightsAll, List.mem_append]
    rcases List.mem_cons.1 h with rfl | h
    · exact .inl hx
    · exact .inr (mem_weightsAll h hx)

set_option maxRecDepth 100000 in
/-- A slice of slices of bytes that came in. -/
theorem rows_open {H : Type} {enc : TypeId × Value → H} {W : World} {base b0 : Nat} {sp : Nat → Bool} {held : Bool} {v : Value} {d : DataW H} {p : List MemPlace} {ts : List TypeId} {ds : List (DataW H)} {j : Nat}
    (hv : Value.okWide Try.prog W .any b0 60 v) (h : DataW.Trod enc Try.prog W base sp held 60 v d p)
    (hsz : (DataW.weightsEach Try.prog ts ds).all (· ≤ reachBytes) = true) (ht : ts[j]? = some 60) (hd : ds[j]? = some d) :
    ∃ (q : Option Addr) (N cap : Nat) (P : Nat → Option Addr) (C : Nat → Nat) (L : Nat → List UInt8), v = .slice q N cap ∧ N ≤ 140737488351232 ∧ Rowed W.heap.size q N P C L W := by
  obtain ⟨a1, len, cap, rfl⟩ := okWide_slice Try.underlying60 hv
  obtain ⟨fuel, hf⟩ := h
  have hc1 : Try.prog.cellsOf 22 = 1 := by kernel_rfl
  have hb24 : Try.prog.bytesOf 22 = 24 := by kernel_rfl
  have hmem := fun x hx => List.all_eq_true.1 hsz x (DataW.weights_mem_each ht hd x hx)
  rcases Go.Deep.open_slice Try.underlying60 hf with ⟨hcs, hx⟩ | ⟨a, len', cap', m, n, D, Pl, hcs, _, hl, hm, hmm, hx, hel⟩
  · simp [Value.cells] at hcs
    obtain ⟨rfl, rfl, rfl⟩ := hcs
    exact ⟨none, 0, 0, fun _ => none, fun _ => 0, fun _ => [], rfl, Nat.zero_le _, fun h => absurd h (by omega), fun i hi => absurd hi (by omega)⟩
  · simp [Value.cells] at hcs
    obtain ⟨rfl, rfl, rfl⟩ := hcs
    simp only [Prod.mk.injEq] at hx
    obtain ⟨rfl, _⟩ := hx
    rw [hc1] at hel
    have hlm : len ≤ m := by rw [hmm]; split <;> omega
    have hN : len ≤ 140737488351232 := by
      have h2 := hmem ((((List.range len).map D).length + ((List.range (m - len)).map fun j => D (len + j)).length) * Try.prog.bytesOf 22) (by simp [DataW.weights, Try.underlying60])
      have h3 : (((List.range len).map D).length + ((List.range (m - len)).map fun j => D (len + j)).length) * Try.prog.bytesOf 22 ≤ reachBytes := by simpa using h2
      rw [hb24] at h3
      simp only [List.length_map, List.length_range, reachBytes] at h3
      omega
    have hone : ∀ i, ∃ t : Option Addr × Nat × List UInt8, i < len → W.cell? (a.add i) = some (.slice t.1 t.2.2.length t.2.1) ∧ (t.1 = none → t.2.2 = [] ∧ t.2.1 = 0) ∧ Bytes W.heap.size W.heap.size t.1 t.2.2 W ∧ t.2.2.length ≤ 140737488351232 := by
      intro i
      by_cases hi : i < len
      · obtain ⟨cs', hc, htr⟩ := hel i (by omega)
        obtain ⟨_, hcl, hat⟩ := World.cells?_some hc
        have hv0 : cs' = [cs'[0]'(by omega)] := by
          match cs', hcl with
          | [x], _ => rfl
        rw [hv0] at htr
        obtain ⟨q, c, l, hq, hn, hB, hs⟩ := bytes_cell htr
        have hcell := hat 0 (by omega)
        refine ⟨(q, c, l), fun _ => ⟨?_, hn, hB, ?_⟩⟩
        · have e : (a.add (i * 1)).add 0 = a.add i := by rw [Nat.mul_one, Go.Deep.add_add, Nat.add_zero]
          rw [e] at hcell
          rw [hcell, ← hq]
          exact List.getElem?_eq_getElem (by omega)
        · rcases hs with ⟨_, rfl⟩ | ⟨es, sp', hy, he⟩
          · exact Nat.zero_le _
          · have hm1 : D i ∈ (List.range len).map D := List.mem_map.2 ⟨i, List.mem_range.2 hi, rfl⟩
            have hy' : D i = .slice es sp' := hy
            have h2 := hmem ((es.length + sp'.length) * Try.prog.bytesOf 5) (by
              simp only [DataW.weights, Try.underlying60]
              refine List.mem_cons_of_mem _ (List.mem_append_left _ (mem_weightsAll hm1 ?_))
              rw [hy']
              simp [DataW.weights, Try.underlying22])
            have h3 : (es.length + sp'.length) * Try.prog.bytesOf 5 ≤ reachBytes := by simpa using h2
            rw [bytesByte] at h3
            simp only [reachBytes] at h3
            show l.length ≤ _
            omega
      · exact ⟨(none, 0, []), fun h => absurd h hi⟩
    obtain ⟨f, hf2⟩ := Classical.skolem.1 hone
    refine ⟨some a, len, cap, fun i => (f i).1, fun i => (f i).2.1, fun i => (f i).2.2, rfl, hN, fun h0 => ?_, fun i hi => ⟨(hf2 i hi).2.1, (hf2 i hi).2.2.1, (hf2 i hi).2.2.2⟩⟩
    obtain ⟨ab, ao, spot⟩ := a
    have hspot : spot = none := by simpa [Addr.add] using World.cell?_spot (hf2 0 h0).1
    subst hspot
    have hblk : ab < W.heap.size := by
      have hc := (hf2 0 h0).1
      rw [Addr.add_lit] at hc
      exact World.block_lt_of_cell? _ _ hc
    refine ⟨ab, ao, rfl, hblk, fun i hi => ?_⟩
    have hc := (hf2 i hi).1
    rw [Addr.add_lit] at hc
    exact hc

set_option maxRecDepth 100000 in
theorem pieces_lifted (os : Os) (started : os.Started) (H : Type) (enc : TypeId × Value → H) :
    ReturnsInHanded {} Try.checked os 9 .any (Rows.basePiecesSpec.pre6 enc Try.prog Try.f9 Rows.basePiecesRow.domain false) (Rows.basePiecesSpec.post enc Try.prog Try.f9 false true false false) := by
  refine returnsInHanded_of_change_sized (C := Try.checked) own started (by kernel_rfl) Try.func9
    (ChangeSpec.witness6 (enc := enc) (C := Try.checked) false ⟨#[], #[.int .i64 0, .slice none 0 0], []⟩ 8 (by kernel_rfl) (by kernel_rfl) (by kernel_rfl) (by kernel_rfl)) ?_
  intro W base args ds gs before hval0 hW _ hsz0 _
  have hsz : (DataW.weightsEach Try.prog (Try.f9.params.toList ++ Rows.basePiecesSpec.plain.varTypes Try.prog) (ds ++ gs)).all (· ≤ reachBytes) = true := hsz0
  clear hsz0
  have hval : ∀ (j : Nat) t v, Try.f9.params[j]? = some t → args[j]? = some v → Value.okWide Try.prog W .any base t v := hval0
  have hW' := hW
  obtain ⟨p, q, hA0, hV, rfl, hfz, hnd⟩ := hW
  have hA : DataW.TrodAll enc Try.prog W 0 (fun _ => true) true Try.f9.params.toList args.toList ds p := hA0
  rw [Try.params9] at hA hval hsz
  obtain ⟨v0, vs0, d0, ds0, p0, q0, hargs, rfl, rfl, h0, r0⟩ := trodAll_cons hA
  obtain ⟨v1, vs1, d1, ds1, p1, q1, rfl, rfl, rfl, h1, r1⟩ := trodAll_cons r0
  obtain ⟨rfl, rfl, rfl⟩ := trodAll_nil r1
  obtain rfl : args = #[v0, v1] := by cases args; simp_all
  obtain ⟨rfl, rfl⟩ := trodVars_none hV
  obtain ⟨a, rfl, rfl, rfl, wa⟩ := open_int Try.underlying3 (hval 0 3 v0 rfl rfl) h0
  have h1k := h1
  obtain ⟨a1, N, cap, P, C, L, rfl, hN, hR⟩ := rows_open (hval 1 60 v1 rfl rfl) h1 hsz (j := 1) rfl rfl
  clear hA0 hval0
  simp only [List.append_nil] at hW'
  have hlt : ∀ x ∈ p1, x.block < W.heap.size := fun x hx => by simpa using hW'.lt x (by simpa using hx)
  refine (pieces_walk a a1 N cap P C L W hN hR).mono fun e W' ⟨he, hg⟩ => ?_
  subst he
  refine ⟨_, rfl, _, _, _, [], [] ++ p1, [], hW', ?_, ?_, ?_, hg.frame _, fun h => by cases h⟩
  · exact trodAll_cons_mk (shut_bool Try.underlying4 _) trodAll_mk0
  · have t1 := Below.trod (by kernel_rfl) (by kernel_rfl) (of_decide_eq_true (by kernel_rfl)) h1k hg hlt
    have ha := trodAll_cons_mk (shut_int Try.underlying3 wa) (trodAll_cons_mk t1 trodAll_mk0)
    rw [List.append_nil] at ha
    exact ha
  · rfl

/-- BasePieces. -/
theorem basePieces_proved : Rows.BasePiecesSaid :=
  OpenClaim.holds_of_wide 9 Try.f9 rfl rfl rfl rfl rfl rfl rfl ⟨rfl, rfl, rfl, rfl, rfl⟩ rfl rfl rfl rfl rfl (by kernel_rfl) Try.func9 (by kernel_rfl)
    (of_decide_eq_true (by kernel_rfl)) (by unfold Func.isWrapper; first | (rw [if_pos (by decide +kernel)]; kernel_rfl) | (rw [if_neg (by decide +kernel)]; exact ⟨rfl, rfl⟩))
    (fun os started H enc _ => pieces_lifted os started H enc)
#print axioms basePieces_proved
end Go.Proofs.Ytaaiikjjfleooaa
