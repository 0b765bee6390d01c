/- The law UtfEncodes holds: what utf.Encode tells of every number is what the document's answer tells: ErrArg of what is no character, else the character's form, in memory of its own, and Decode leads back. -/
import Derived.Test.YtjbhehkkigopmaaUtfDec
import Derived.Test.YtjbhehkkigopmaaUtfRefEnc
import Derived.Test.YtjbhehkkigopmaaSpot3
import Derived.ChangeMaps5
namespace Go.Proofs.Ytjbhehkkigopmaa
open Go.ChangeMaps Go.ChangeShapes Go.WideShapes Go.ChangeAt Go.RowKit Go.Lib

theorem held_text {g : Nat} {l : List UInt8} {cap : Nat} {w : World} (h : HeldB g l cap w) : (convert 22 9 (.slice (some ⟨g, 0, none⟩) l.length cap)).run Try.prog w = .ok (.string ⟨l.toArray⟩) w := by
  obtain ⟨C, fz, hb, _, _, _, _, hc, _⟩ := h
  refine run_convert_bytes_back w 22 9 5 ⟨g, 0, none⟩ cap l Try.underlying22 Try.underlying5 Try.underlying9 fun j hj => ?_
  rw [Addr.add_lit, Nat.zero_add, cell_of_heap hb]
  exact hc j hj
theorem HeldB.keep {g : Nat} {l : List UInt8} {cap B : Nat} {w w' : World} (h : HeldB g l cap w) (hb : Below B w w') (hg : g < B) : HeldB g l cap w' := by
  obtain ⟨C, fz, h0, h⟩ := h
  exact ⟨C, fz, (hb.block g hg).trans h0, h⟩
theorem HeldB.lt {g : Nat} {l : List UInt8} {cap : Nat} {w : World} (h : HeldB g l cap w) : g < w.heap.size := by
  obtain ⟨C, fz, h0, h⟩ := h
  exact (Array.getElem?_eq_some_iff.1 h0).1
theorem HeldB.empty {g : Nat} {l : List UInt8} {cap : Nat} {w : World} (h : HeldB g l cap w) : HeldB g [] cap w := by
  obtain ⟨C, fz, h0, h1, h2, h3, h4, h5, h6⟩ := h
  exact ⟨C, fz, h0, h1, h2, Nat.zero_le _, h4, fun j hj => by simp at hj, h6⟩
theorem HeldB.other {g g' : Nat} {l : List UInt8} {cap : Nat} {w : World} (h : HeldB g l cap w) (hg : g ≠ g') (k : Nat) (v : Value) : HeldB g l cap (w.setCell ⟨g', k, none⟩ v) := by
  obtain ⟨C, fz, h0, h⟩ := h
  exact ⟨C, fz, (Below.heap_setCell w ⟨g', k, none⟩ v g hg).trans h0, h⟩
theorem HeldB.store {g : Nat} {cap : Nat} {w : World} (h : HeldB g [] cap w) (k : Nat) (x : Int) : HeldB g [] cap (w.setCell ⟨g, k, none⟩ (.int .u8 x)) := by
  obtain ⟨C, fz, h0, h1, h2, h3, h4, h5, h6⟩ := h
  refine ⟨_, fz, row_set (i := k) h0 _, by simp [h1], h2, Nat.zero_le _, h4, fun j hj => by simp at hj, fun j hj => ?_⟩
  by_cases e : k = j
  · subst e
    refine ⟨x, ?_⟩
    rw [Array.getElem?_setIfInBounds_self_of_lt (by omega)]
  · obtain ⟨y, hy⟩ := h6 j hj
    exact ⟨y, by rw [Array.getElem?_setIfInBounds_ne e, hy]⟩
theorem HeldB.cell {g : Nat} {l : List UInt8} {cap : Nat} {w : World} (h : HeldB g l cap w) (k : Nat) (hk : k < cap) : (∃ x : Int, w.cell? ⟨g, k, none⟩ = some (.int .u8 x)) ∧ w.frozen? ⟨g, k, none⟩ = false := by
  obtain ⟨C, fz, h0, h1, h2, h3, h4, h5, h6⟩ := h
  obtain ⟨x, hx⟩ := h6 k hk
  refine ⟨⟨x, by rw [cell_of_heap h0]; exact hx⟩, ?_⟩
  unfold World.frozen?
  rw [h0]
  simp
  omega
theorem HeldB.cap {g : Nat} {l : List UInt8} {cap : Nat} {w : World} (h : HeldB g l cap w) : l.length ≤ cap ∧ cap ≤ maxLen := by
  obtain ⟨C, fz, h0, h1, h2, h3, h4, h5, h6⟩ := h
  exact ⟨h3, h4⟩
theorem decode_held {g : Nat} {l : List UInt8} {cap : Nat} {w : World} (h : HeldB g l cap w) (r n : Nat) (hf : formAt l = .ok r n) (h0 : 0 < l.length) (hl : l.length ≤ 140737488351232) :
    Calls Try.prog 25 #[.slice (some ⟨g, 0, none⟩) l.length cap, .int .i64 0] w fun e w' => e = .returned (.tuple #[.int .i32 r, .int .i64 n, .nilIface]) ∧ Below w.heap.size w w' := by
  have hg := h.lt
  obtain ⟨C, fz, k0, k1, k2, k3, k4, k5, k6⟩ := h
  have hd := decode_any g 0 cap 0 l w (fun j hj => by rw [cell_of_heap k0, Nat.zero_add]; exact k5 j hj) hg h0 k3 hl
  rw [List.drop_zero, hf] at hd
  exact hd

set_option maxRecDepth 100000 in
set_option maxHeartbeats 8000000 in
theorem utfEncodes_walk (r : Int) (W : World) (hr : (Lit.int .i32 r).wf = true) :
    Calls Try.prog 5 #[.int .i32 r] W fun e w' => e = .returned (.bool true) ∧ Below W.heap.size W w' := by
  have hb0 : -2147483648 ≤ r ∧ r ≤ 2147483647 := by simp [Lit.wf, IntKind.min, IntKind.max, IntKind.signed, IntKind.bits] at hr; omega
  clear hr
  by_cases hs : 0 ≤ r ∧ (r < 55296 ∨ (57343 < r ∧ r ≤ 1114111))
  case neg =>
    have hno : r < 0 ∨ (55296 ≤ r ∧ r ≤ 57343) ∨ 1114111 < r := by omega
    have H1 := Lib.hid (encode_no r hb0.1 hb0.2 hno)
    have H2 := Lib.hid (refEncode_no r hno)
    have H3 := Lib.hid (scalar_no r hno)
    clear hs hno hb0
    go_enter Try.func5, Try.ntmps5
    go_wp2_with fail
    refine (H1.out _).mono ?_
    rintro e w1 ⟨rfl, rfl⟩
    go_wp2_with fail
    refine (H2.out _).mono ?_
    rintro e w1 ⟨rfl, hb1⟩
    go_wp2_with fail
    refine (H3.out _).mono ?_
    rintro e w2 ⟨rfl, rfl⟩
    go_wp2_with fail
    refine (errno_yes _ _).mono ?_
    rintro e w4 ⟨rfl, rfl⟩
    go_wp2_with fail
    go_ret
    exact ⟨rfl, hb1⟩
  obtain ⟨q, rfl⟩ : ∃ q : Nat, r = (q : Int) := ⟨r.toNat, by omega⟩
  have hsc : scalar q := by unfold scalar; omega
  have H1 := Lib.hid (encode_yes q hsc)
  have H2 := Lib.hid (refEncode_yes q hs)
  have H3 := Lib.hid (scalar_yes q hs)
  have hform := enc_form q hsc []
  rw [List.append_nil] at hform
  have h4 := encodeRune_le q
  have h1 := encodeRune_pos q
  unfold EncOut at H1
  obtain ⟨l, hl⟩ : ∃ l, encodeRune (q : Int) = l := ⟨_, rfl⟩
  rw [hl] at H1 H2 hform h4 h1
  have HD := Lib.hid (fun (g cap : Nat) (w : World) (h : HeldB g l cap w) => decode_held h q l.length hform h1 (by omega))
  have HT := Lib.hid (fun (g cap : Nat) (w : World) (h : HeldB g l cap w) => held_text h)
  obtain ⟨S, hS⟩ : ∃ S : ByteArray, ⟨l.toArray⟩ = S := ⟨_, rfl⟩
  have hSs : S.size = l.length := by rw [← hS]; rfl
  rw [hS] at H2 HT
  obtain ⟨n, hn⟩ : ∃ n, l.length = n := ⟨_, rfl⟩
  have HN := Lib.hid hn
  rw [hn] at H1 HD HT h4 h1 hSs
  clear hs hsc hform hl hS hn hb0
  go_enter Try.func5, Try.ntmps5
  go_wp2_with fail
  refine (H1.out _).mono ?_
  rintro e w1 ⟨cap1, rfl, hh1, hb1, hz1⟩
  have HH1 := Lib.hid hh1
  have HZ1 := Lib.hid hz1
  clear hh1 hz1
  go_wp2_with fail
  refine (H2.out _).mono ?_
  rintro e w2 ⟨rfl, hb2⟩
  have s1 := hb1.size
  have s2 := hb2.size
  have g2 := hb1.trans (hb2.mono s1)
  have HH2 := Lib.hid (HH1.out.keep hb2 HH1.out.lt)
  go_wp2_with fail
  refine (H3.out _).mono ?_
  rintro e w3 ⟨rfl, rfl⟩
  go_wp2_with fail
  refine (H1.out _).mono ?_
  rintro e w3 ⟨cap2, rfl, hh3, hb3, hz3⟩
  have HH3 := Lib.hid hh3
  have HZ3 := Lib.hid hz3
  clear hh3 hz3
  have s3 := hb3.size
  have g3 := g2.trans (hb3.mono (by omega))
  have HB3 := Lib.hid (HH2.out.keep hb3 HH2.out.lt)
  have t1 := HT.out _ _ _ HB3.out
  have t2 := HT.out _ _ _ HH3.out
  go_wp2_with fail
  refine (HD.out _ _ _ HB3.out).mono ?_
  rintro e w4 ⟨rfl, hb4⟩
  have s4 := hb4.size
  have g4 := g3.trans (hb4.mono (by omega))
  have HA4 := Lib.hid (HB3.out.keep hb4 HB3.out.lt)
  have HC4 := Lib.hid (HH3.out.keep hb4 HH3.out.lt)
  have hcap := HA4.out.cap.2
  unfold maxLen at hcap
  have hWw : W.heap.size < w2.heap.size := by have := HZ1.out; omega
  have hx1 : n ≤ cap1 := by have h := HA4.out.cap.1; rw [HN.out] at h; exact h
  clear t1 t2
  go_wp2_with fail
  go_loopw [12] (fun v wr => ∃ k : Nat, k ≤ cap1 ∧ v = .int .i64 k ∧ HeldB W.heap.size [] cap1 wr ∧ HeldB w2.heap.size l cap2 wr ∧ Below W.heap.size W wr ∧ w2.heap.size < wr.heap.size) (fun v _ => cap1 - (RowKit.intOf v).toNat)
  case atStart => exact ⟨0, Nat.zero_le _, rfl, HA4.out.empty, HC4.out, g4, HC4.out.lt⟩
  case round =>
    obtain ⟨k, hk, rfl, hA, hC, gB, hsz⟩ := hrel
    by_cases hlt : k < cap1
    · obtain ⟨⟨x, hx⟩, hf⟩ := hA.cell k hlt
      go_wp2_with fail
      go_roundw
      case rel => exact ⟨k + 1, by omega, by go_num, hA.store k 120, hC.other (by omega) k _, gB.setCell (p := ⟨W.heap.size, k, none⟩) (Nat.le_refl _) _, by simp [World.setCell]; omega⟩
      case measure => simp [RowKit.intOf]; omega
    · go_wp2_with fail
      refine (H1.out _).mono ?_
      rintro e w5 ⟨cap3, rfl, hh5, hb5, hz5⟩
      have HH5 := Lib.hid hh5
      have HC5 := Lib.hid (hC.keep hb5 hsz)
      clear hh5 hz5
      have t1 := HT.out _ _ _ HC5.out
      have t2 := HT.out _ _ _ HH5.out
      go_wp2_with fail
      go_ret
      exact ⟨rfl, gB.trans (hb5.mono gB.size)⟩

theorem own : ownKnob Try.prog.godebug = none := by kernel_rfl

set_option maxRecDepth 100000 in
theorem utfEncodes_lifted (os : Os) (started : os.Started) (H : Type) (enc : TypeId × Value → H) :
    ReturnsInHanded {} Try.checked os 5 .any (Rows.utfEncodesSpec.pre6 enc Try.prog Try.f5 Rows.utfEncodesRow.domain false) (Rows.utfEncodesSpec.post enc Try.prog Try.f5 false true false false) := by
  refine returnsInHanded_of_change_sized (C := Try.checked) own started (by kernel_rfl) Try.func5
    (ChangeSpec.witness6 (enc := enc) (C := Try.checked) false ⟨#[], #[.int .i32 0], []⟩ 8 (by kernel_rfl) (by kernel_rfl) (by kernel_rfl) (by kernel_rfl)) ?_
  intro W base args ds gs before hval0 hW _ hsz0 _
  have hsz : (DataW.weightsEach Try.prog (Try.f5.params.toList ++ Rows.utfEncodesSpec.plain.varTypes Try.prog) (ds ++ gs)).all (· ≤ reachBytes) = true := hsz0
  clear hsz0
  have hval : ∀ (j : Nat) t v, Try.f5.params[j]? = some t → args[j]? = some v → Value.okWide Try.prog W .any base t v := hval0
  have hW' := hW
  obtain ⟨p, q, hA0, hV, rfl, hfz, hnd⟩ := hW
  have hA : DataW.TrodAll enc Try.prog W 0 (fun _ => true) true Try.f5.params.toList args.toList ds p := hA0
  rw [Try.params5] at hA hval hsz
  obtain ⟨v0, vs0, d0, ds0, p0, q0, hargs, rfl, rfl, h0, r0⟩ := trodAll_cons hA
  obtain ⟨rfl, rfl, rfl⟩ := trodAll_nil r0
  obtain rfl : args = #[v0] := by cases args; simp_all
  obtain ⟨rfl, rfl⟩ := trodVars_none hV
  obtain ⟨x0, rfl, rfl, rfl, m0⟩ := open_int Try.underlying21 (hval 0 21 v0 rfl rfl) h0
  clear hA0 hval0
  simp only [List.append_nil] at hW'
  refine (utfEncodes_walk x0 W m0).mono fun e W' ⟨he, hg⟩ => ?_
  subst he
  refine ⟨_, rfl, _, _, _, [], [], [], hW', ?_, ?_, ?_, hg.frame _, fun h => by cases h⟩
  · exact trodAll_cons_mk (shut_bool Try.underlying4 _) trodAll_mk0
  · exact (trodAll_cons_mk (shut_int Try.underlying21 m0) trodAll_mk0)
  · rfl

/-- UtfEncodes. -/
theorem utfEncodes_proved : Rows.UtfEncodesSaid :=
  OpenClaim.holds_of_wide 5 Try.f5 rfl rfl rfl rfl rfl rfl rfl ⟨rfl, rfl, rfl, rfl, rfl⟩ rfl rfl rfl rfl rfl (by kernel_rfl) Try.func5 (by kernel_rfl)
    (of_decide_eq_true (by kernel_rfl)) (by unfold Func.isWrapper; first | (rw [if_pos (by decide +kernel)]; kernel_rfl) | (rw [if_neg (by decide +kernel)]; exact ⟨rfl, rfl⟩))
    (fun os started H enc _ => utfEncodes_lifted os started H enc)
#print axioms utfEncodes_proved
end Go.Proofs.Ytjbhehkkigopmaa
