/- The law BookNames holds, and its card: the numbers are as the document names them, and what is told of a book that is not there. The card ties the table sha.constants to the pruned copy of the project that the seat names. -/
import Derived.Test.YtmjnaedpncmgbaaDoorBookNames0
namespace Go.Proofs.YtmjnaedpncmgbaaDoor
open Go.ChangeShapes Go.WideShapes Go.ChangeAt Go.RowKit Go.Lib

/-- A load of a whole row that is guarded, and asked for. -/
theorem wpList_load_asked {P : Program} {ops : Array Oper} {rest : List Oper} {o : Oper} {a : Act} {w : World} {Q : Exit → Act → World → Prop} (hw : Region.wanted o (yielded ops a.tmps) = true) (ty : TypeId) (x : Operand) (ho : o.op = .load ty x)
    (g : Nat) (hx : a.eval x = .pointer (some ⟨g, 0, none⟩)) (t : TypeId) (cs : Array Value) (fr : Nat × Nat) (d : TypeDesc) (hg : w.heap[g]? = some (.cells cs t fr))
    (hu : P.underlying ty = some d) (hd : (match d with | .struct _ | .array _ _ => true | _ => false) = true) (hi : (P.info? ty).map (·.size) = some cs.size)
    (h : wpList P ops Q rest (a.put o.dst (.agg cs)) w) : wpList P ops Q (o :: rest) a w :=
  wpList_step fun K hK => by rw [if_pos hw]; exact wp_load_row ty x ho g hx t cs fr d hg hu hd hi (hK _ _ h)

set_option maxRecDepth 100000 in
set_option maxHeartbeats 8000000 in
theorem bookNames_walk (w : World) :
    Calls Tryd.prog 3 #[] w fun e w' => e = .returned (.bool true) ∧ Below w.heap.size w w' := by
  obtain ⟨Z, hZ⟩ : ∃ Z, (byteCells zeros).toArray = Z := ⟨_, rfl⟩
  have HZ := Lib.hid hZ
  have hsZ : (Tryd.prog.info? 31).map (·.size) = some Z.size := by rw [← hZ]; exact dig_size zeros rfl
  have h1Z : Z.all (·.oneCell') = true := by rw [← hZ]; exact dig_one zeros
  have HSZ := Lib.hid hsZ
  have H1Z := Lib.hid h1Z
  have HRoot := Lib.hid (fun n w => rootNil n w)
  unfold dig at HRoot
  rw [hZ] at HRoot
  clear hZ hsZ h1Z
  go_enter Tryd.func3, Tryd.ntmps3
  go_wp2_with fail
  refine (appendNil _ _).mono ?_
  rintro e w1 ⟨rfl, hb1⟩
  have g1 : Below w.heap.size w w1 := by
    refine Below.trans ?_ (hb1.mono ?_) <;> first | go_grown | (simp; omega)
  have HG1 := Lib.hid g1
  clear hb1 g1
  go_wp2_with fail
  refine (entryNil _ _).mono ?_
  rintro e w2 ⟨rfl, hb2⟩
  have HG2 := Lib.hid (HG1.out.trans (hb2.mono HG1.out.size))
  clear hb2
  go_wp2_with fail
  refine (HRoot.out _ _).mono ?_
  rintro e w3 ⟨rfl, hb3⟩
  have HG3 := Lib.hid (HG2.out.trans (hb3.mono HG2.out.size))
  clear hb3
  go_wp2_with (refine wpList_store_row rfl 31 (.tmp 6) (.tmp 29) rfl w3.heap.size Z rfl rfl 31 (byteCells zeros).toArray ?hg HSZ.out ?hold H1Z.out ?_)
  case hg => exact (MapKept.heap_alloc w3 _).1
  case hold => rw [← HZ.out]
  rw [World.setRow_alloc_new]
  obtain ⟨v4, hv4⟩ : ∃ v4, v4 = w3.alloc (.cells Z 31) := ⟨_, rfl⟩
  have HH4 : Hid (v4.heap[w3.heap.size]? = some (.cells Z 31 (0, 0))) := Lib.hid (by rw [hv4]; exact (MapKept.heap_alloc w3 _).1)
  have HG4 : Hid (Below w.heap.size w v4) := Lib.hid (by rw [hv4]; exact HG3.out.alloc HG3.out.size _)
  have HS4 : Hid (w3.heap.size < v4.heap.size) := Lib.hid (Array.getElem?_eq_some_iff.1 HH4.out).1
  rw [← hv4]
  clear hv4
  go_wp2_with fail
  refine (standsNil _ _ _).mono ?_
  rintro e w5 ⟨rfl, hb5⟩
  have HG5 := Lib.hid (HG4.out.trans (hb5.mono HG4.out.size))
  have HH5 := Lib.hid ((hb5.block _ HS4.out).trans HH4.out)
  have HS5 := Lib.hid (Nat.lt_of_lt_of_le HS4.out hb5.size)
  clear hb5
  go_wp2_with fail
  refine (grewNil _ _ _).mono ?_
  rintro e w6 ⟨rfl, hb6⟩
  have HG6 := Lib.hid (HG5.out.trans (hb6.mono HG5.out.size))
  have HH6 := Lib.hid ((hb6.block _ HS5.out).trans HH5.out)
  have HS6 := Lib.hid (Nat.lt_of_lt_of_le HS5.out hb6.size)
  clear hb6
  go_wp2_with fail
  refine (peaksNil _ _).mono ?_
  rintro e w7 ⟨rfl, hb7⟩
  have HG7 := Lib.hid (HG6.out.trans (hb7.mono HG6.out.size))
  have HH7 := Lib.hid ((hb7.block _ HS6.out).trans HH6.out)
  clear hb7
  have hz : Z = #[Value.int .u8 0, Value.int .u8 0, Value.int .u8 0, Value.int .u8 0, Value.int .u8 0, Value.int .u8 0, Value.int .u8 0, Value.int .u8 0, Value.int .u8 0, Value.int .u8 0, Value.int .u8 0, Value.int .u8 0, Value.int .u8 0, Value.int .u8 0, Value.int .u8 0, Value.int .u8 0, Value.int .u8 0, Value.int .u8 0, Value.int .u8 0, Value.int .u8 0, Value.int .u8 0, Value.int .u8 0, Value.int .u8 0, Value.int .u8 0, Value.int .u8 0, Value.int .u8 0, Value.int .u8 0, Value.int .u8 0, Value.int .u8 0, Value.int .u8 0, Value.int .u8 0, Value.int .u8 0] := by rw [← HZ.out]; rfl
  have heq0 : (Op.equalIn 10000 31 (.agg Z) (.agg #[Value.int .u8 0, Value.int .u8 0, Value.int .u8 0, Value.int .u8 0, Value.int .u8 0, Value.int .u8 0, Value.int .u8 0, Value.int .u8 0, Value.int .u8 0, Value.int .u8 0, Value.int .u8 0, Value.int .u8 0, Value.int .u8 0, Value.int .u8 0, Value.int .u8 0, Value.int .u8 0, Value.int .u8 0, Value.int .u8 0, Value.int .u8 0, Value.int .u8 0, Value.int .u8 0, Value.int .u8 0, Value.int .u8 0, Value.int .u8 0, Value.int .u8 0, Value.int .u8 0, Value.int .u8 0, Value.int .u8 0, Value.int .u8 0, Value.int .u8 0, Value.int .u8 0, Value.int .u8 0])).run Tryd.prog w7 = .ok true w7 := by rw [← hz, ← HZ.out]; exact dig_same zeros rfl w7
  clear hz
  go_wp2_with (refine wpList_load_asked rfl 31 (.tmp 6) rfl w3.heap.size rfl 31 _ (0, 0) _ HH7.out Tryd.underlying31 rfl HSZ.out ?_)
  refine (sizeNil _).mono ?_
  rintro e w8 ⟨rfl, hb8⟩
  have HG8 := Lib.hid (HG7.out.trans (hb8.mono HG7.out.size))
  clear hb8 heq0
  go_wp2_with fail
  refine (copyNil _).mono ?_
  rintro e w9 ⟨rfl, hb9⟩
  have HG9 := Lib.hid (HG8.out.trans (hb9.mono HG8.out.size))
  clear hb9
  go_wp2_with fail
  refine (tellsNil _).mono ?_
  rintro e w10 ⟨rfl, hb⟩
  have HG10 := Lib.hid (HG9.out.trans (hb.mono HG9.out.size))
  clear hb
  go_wp2_with fail
  refine (tellsNil _).mono ?_
  rintro e w11 ⟨rfl, hb⟩
  have HG11 := Lib.hid (HG10.out.trans (hb.mono HG10.out.size))
  clear hb
  go_wp2_with fail
  refine (tellsNil _).mono ?_
  rintro e w12 ⟨rfl, hb⟩
  have HG12 := Lib.hid (HG11.out.trans (hb.mono HG11.out.size))
  clear hb
  go_wp2_with fail
  refine (tellsNil _).mono ?_
  rintro e w13 ⟨rfl, hb⟩
  have HG13 := Lib.hid (HG12.out.trans (hb.mono HG12.out.size))
  clear hb
  go_wp2_with fail
  refine (tellsNil _).mono ?_
  rintro e w14 ⟨rfl, hb⟩
  have HG14 := Lib.hid (HG13.out.trans (hb.mono HG13.out.size))
  clear hb
  go_wp2_with fail
  refine (tellsNil _).mono ?_
  rintro e w15 ⟨rfl, hb⟩
  have HG15 := Lib.hid (HG14.out.trans (hb.mono HG14.out.size))
  clear hb
  go_wp2_with fail
  go_ret
  exact ⟨rfl, HG15.out⟩

def tabK : Array Value := #[.int .u32 1116352408, .int .u32 1899447441, .int .u32 3049323471, .int .u32 3921009573, .int .u32 961987163, .int .u32 1508970993, .int .u32 2453635748, .int .u32 2870763221, .int .u32 3624381080, .int .u32 310598401, .int .u32 607225278, .int .u32 1426881987, .int .u32 1925078388, .int .u32 2162078206, .int .u32 2614888103, .int .u32 3248222580, .int .u32 3835390401, .int .u32 4022224774, .int .u32 264347078, .int .u32 604807628, .int .u32 770255983, .int .u32 1249150122, .int .u32 1555081692, .int .u32 1996064986, .int .u32 2554220882, .int .u32 2821834349, .int .u32 2952996808, .int .u32 3210313671, .int .u32 3336571891, .int .u32 3584528711, .int .u32 113926993, .int .u32 338241895, .int .u32 666307205, .int .u32 773529912, .int .u32 1294757372, .int .u32 1396182291, .int .u32 1695183700, .int .u32 1986661051, .int .u32 2177026350, .int .u32 2456956037, .int .u32 2730485921, .int .u32 2820302411, .int .u32 3259730800, .int .u32 3345764771, .int .u32 3516065817, .int .u32 3600352804, .int .u32 4094571909, .int .u32 275423344, .int .u32 430227734, .int .u32 506948616, .int .u32 659060556, .int .u32 883997877, .int .u32 958139571, .int .u32 1322822218, .int .u32 1537002063, .int .u32 1747873779, .int .u32 1955562222, .int .u32 2024104815, .int .u32 2227730452, .int .u32 2361852424, .int .u32 2428436474, .int .u32 2756734187, .int .u32 3204031479, .int .u32 3329325298]

theorem own : ownKnob Tryd.prog.godebug = none := by kernel_rfl

/-- What the walk gives. -/
theorem bookNames_contract (H : Type) (enc : TypeId × Value → H) (W : World) (args : Array Value) (ds gs : List (DataW H)) (before : List MemPlace)
    (hW : DataW.Whole enc Tryd.prog Tryd.f3.params.toList Rows.bookNamesSpec.vars false W args.toList ds gs before) :
    Calls Tryd.prog 3 args W fun e W' => ∃ v, e = .returned v ∧ Rows.bookNamesSpec.post enc Tryd.prog Tryd.f3 false true false false W args v W' := by
  have hW' := hW
  obtain ⟨p, q, hA0, hV, rfl, hfz, hnd⟩ := hW
  have hA : DataW.TrodAll enc Tryd.prog W 0 (fun _ => true) true Tryd.f3.params.toList args.toList ds p := hA0
  rw [Tryd.params3] at hA
  obtain ⟨rfl, rfl, rfl⟩ := trodAll_none hA
  obtain ⟨rfl, rfl⟩ := trodVars_none hV
  clear hA0
  simp only [List.append_nil] at hW'
  refine (bookNames_walk W).mono fun e W' ⟨he, hg⟩ => ?_
  subst he
  refine ⟨_, rfl, _, _, _, [], [], [], hW', ?_, ?_, ?_, hg.frame _, fun h => by cases h⟩
  · exact trodAll_cons_mk (shut_bool Tryd.underlying4 _) trodAll_mk0
  · rfl
  · rfl

/-- A block of cells, holding others. -/
def held (c : Array Value) : Obj → Obj
  | .cells _ t frozen => .cells c t frozen
  | o => o
/-- A world for the witness: the settled one, the tables holding what their initialisers lay. -/
noncomputable def laidWorld (os : Os) : World :=
  { World.holding Tryd.prog os ⟨#[], #[], []⟩ with heap := ((World.holding Tryd.prog os ⟨#[], #[], []⟩).heap.modify 0 (held tabK)) }
theorem laid_met (os : Os) : laidMet Tryd.prog Rows.bookNamesRow.laid ((laidWorld os).forCall (fun _ _ => 0) ⟨#[], #[], []⟩).memory :=
  laidMet_of_run' 8 (by kernel_rfl) (by kernel_rfl)
theorem bookNames_reads (os : Os) {H : Type} (enc : TypeId × Value → H) : ∃ places, DataW.whole enc Tryd.prog ((laidWorld os).forCall (fun _ _ => 0) ⟨#[], #[], []⟩).memory Tryd.f3.params.toList Rows.bookNamesSpec.vars false (#[] : Array Value).toList 8 = some ([], [], places) :=
  ⟨[], by kernel_rfl⟩

set_option maxRecDepth 100000 in
theorem bookNames_lifted (os : Os) (started : os.Started) (H : Type) (enc : TypeId × Value → H) (F : Stop.Interp) :
    ReturnsInHanded {} Tryd.checked os 3 .any ((OpenSpec.ofChange Rows.bookNamesSpec).preRow enc Tryd.prog Tryd.f3 Rows.bookNamesRow.domain false Rows.bookNamesRow.laid) (((OpenSpec.ofChange Rows.bookNamesSpec).at F).post enc Tryd.prog Tryd.f3 false true false false) := by
  obtain ⟨places, hx⟩ := bookNames_reads os enc
  refine returnsInHanded_of_row (C := Tryd.checked) (s := OpenSpec.ofChange Rows.bookNamesSpec) own started (by kernel_rfl) Tryd.func3
    (witness_row_at (enc := enc) (C := Tryd.checked) false (laidWorld os) #[] rfl (by kernel_rfl) (by kernel_rfl) (by kernel_rfl)
      (OpenSpec.preRow_of_cond 8 hx (by kernel_rfl) (fun k hk => by cases hk) (by kernel_rfl) (laid_met os))) ?_
  intro W base args ds gs before hval hW _ _ _ _ _ _
  exact bookNames_contract H enc W args ds gs before hW

theorem bookNames_said : Rows.BookNamesSaid :=
  OpenClaim.holds_of_cond 3 Tryd.f3 rfl rfl rfl rfl rfl rfl rfl ⟨rfl, rfl, rfl, rfl, rfl⟩ rfl rfl rfl rfl rfl (by kernel_rfl) Tryd.func3 (by kernel_rfl)
    (of_decide_eq_true (by kernel_rfl)) (by unfold Func.isWrapper; first | (rw [if_pos (by decide +kernel)]; kernel_rfl) | (rw [if_neg (by decide +kernel)]; exact ⟨rfl, rfl⟩))
    (fun os started H enc _ F => by rw [OpenClaim.pre_eq_preRow]; exact bookNames_lifted os started H enc F)

theorem bookNames_plain (f : FuncId) (fn : Func) (hf : Tryd.pinned.checked.prog.funcNamed "affidavit/affidavitlaw27.BookNames" = some f) (hfn : Tryd.pinned.checked.prog.funcs[f]? = some fn) :
    true = Tryd.pinned.checked.prog.looks [] ∧ ∀ (j : Nat) t, fn.params[j]? = some t → Tryd.pinned.checked.prog.wantsStandIn t = false := by
  obtain rfl : f = 3 := Option.some.inj ((show Tryd.prog.funcNamed "affidavit/affidavitlaw27.BookNames" = some 3 by kernel_rfl).symm.trans hf) |>.symm
  obtain rfl : fn = Tryd.f3 := (Option.some.inj (Tryd.func3.symm.trans hfn)).symm
  refine ⟨by kernel_rfl, fun j t ht => ?_⟩
  rw [Tryd.params3] at ht
  cases ht

/-- The card of BookNames. -/
theorem bookNames_card : Rows.BookNamesCardSaid :=
  Claim7.holds_tied_plain_at .later [] _ _ _ _ bookNames_said (fun _ h => by cases h) (by kernel_rfl) (fun _ h => by cases h) bookNames_row_tie rfl ⟨rfl, rfl⟩ (by kernel_rfl) rfl bookNames_plain (by kernel_rfl)
#print axioms bookNames_card
end Go.Proofs.YtmjnaedpncmgbaaDoor
