/- The law BaseOrder holds: by Hex and by Low two rows of bytes of at most 2^27 bytes together stand as their letters stand; of longer ones the law asks nothing. -/
import Derived.Test.YtaaiikjjfleooaaEnd
import Derived.Test.YtaaiikjjfleooaaOpenBytes
import Derived.WalkLawsBesides
namespace Go.Proofs.Ytaaiikjjfleooaa
open Go.ChangeShapes Go.WideShapes Go.ChangeAt Go.RowKit Go.Lib

theorem own : ownKnob Try.prog.godebug = none := by kernel_rfl

theorem beyond_yes (n : Int) (h : 134217728 < n) (w : World) : Calls Try.prog 11 #[.int .i64 n] w fun e w' => e = .returned (.bool true) ∧ w = w' := by
  go_enter Try.func11, Try.ntmps11
  go_wp2
  go_ret
  exact ⟨rfl, rfl⟩
theorem beyond_no (n : Int) (h : n ≤ 134217728) (w : World) : Calls Try.prog 11 #[.int .i64 n] w fun e w' => e = .returned (.bool false) ∧ w = w' := by
  have hd : decide ((134217728 : Int) < n) = false := by simp; omega
  clear h
  go_enter Try.func11, Try.ntmps11
  go_wp2
  go_ret
  exact ⟨rfl, rfl⟩

/-- Does a text stand ahead of another one, or are they one? -/
def sle (s t : ByteArray) : Bool := Op.bytesLess s.toList t.toList || s.toList == t.toList
theorem ahead_any (s t : ByteArray) (w : World) : Calls Try.prog 29 #[.string s, .string t] w fun e w' => e = .returned (.bool (sle s t)) ∧ w' = w := by
  go_enter Try.func29, Try.ntmps29
  go_wp2
  go_ret
  exact ⟨rfl, rfl⟩

theorem sle_dle (x y : List UInt8) : sle ⟨x.toArray⟩ ⟨y.toArray⟩ = dle (x.map UInt8.toNat) (y.map UInt8.toNat) := by
  unfold sle
  rw [ByteArray.toList_eq, ByteArray.toList_eq]
  exact less_or_same x y

theorem lett_rises (a : Int) (q : Nat) (ha : (a = 1 ∧ q = 4) ∨ (a = 2 ∧ q = 5)) (i j : Nat) (hi : i < 2 ^ q) (hj : j < 2 ^ q) (h : i < j) : (lett a i).toNat < (lett a j).toNat := by
  have d4 : ∀ i : Fin 16, ∀ j : Fin 16, i.1 < j.1 → (lett 1 i.1).toNat < (lett 1 j.1).toNat := by decide +kernel
  have d5 : ∀ i : Fin 32, ∀ j : Fin 32, i.1 < j.1 → (lett 2 i.1).toNat < (lett 2 j.1).toNat := by decide +kernel
  rcases ha with ⟨rfl, rfl⟩ | ⟨rfl, rfl⟩
  · exact d4 ⟨i, hi⟩ ⟨j, hj⟩ h
  · exact d5 ⟨i, hi⟩ ⟨j, hj⟩ h

/-- Letters stand as bytes stand. -/
theorem letters_stand (a : Int) (q : Nat) (ha : (a = 1 ∧ q = 4) ∨ (a = 2 ∧ q = 5)) (x y : List UInt8) :
    sle ⟨((allNums q x).map (lett a)).toArray⟩ ⟨((allNums q y).map (lett a)).toArray⟩ = sle ⟨x.toArray⟩ ⟨y.toArray⟩ := by
  have hlt : ∀ l : List UInt8, ∀ z ∈ allNums q l, z < 2 ^ q := by
    intro l z hz
    unfold allNums at hz
    rcases List.mem_append.1 hz with hz | hz
    · exact nums_lt q l _ z hz
    · split at hz
      · cases hz
      · rw [List.mem_singleton] at hz; rw [hz]; exact Nat.mod_lt _ (Nat.two_pow_pos q)
  rw [sle_dle, sle_dle, List.map_map, List.map_map]
  have e : (UInt8.toNat ∘ lett a) = fun i => (lett a i).toNat := rfl
  rw [e, dle_map (fun i => (lett a i).toNat) (2 ^ q) (fun i j hi hj h => lett_rises a q ha i j hi hj h) _ _ (hlt x) (hlt y)]
  exact dle_all q (by omega) (by omega) x y

set_option maxRecDepth 100000 in
set_option maxHeartbeats 2000000 in
theorem write_some (a : Int) (q : Nat) (ha : (a = 1 ∧ q = 4) ∨ (a = 2 ∧ q = 5) ∨ (a = 3 ∧ q = 6)) (p : Option Addr) (cap : Nat) (l : List UInt8) (w : World)
    (hB : Bytes w.heap.size w.heap.size p l w) (hlen : l.length ≤ 134217728) :
    Calls Try.prog 13 #[.int .u8 a, .slice p l.length cap] w fun e w' => e = .returned (.tuple #[.string ⟨((allNums q l).map (lett a)).toArray⟩, .nilIface]) ∧ Below w.heap.size w w' := by
  have HL := Lib.hid (letters_is a q ha)
  have HB := Lib.hid hB
  go_enter Try.func13, Try.ntmps13
  go_wp2_with fail
  refine (HL.out _).mono ?_
  rintro e w1 ⟨rfl, hb1⟩
  have s1 := hb1.size
  go_wp2_with fail
  refine (whole_some a q ha p cap l w1 ((HB.out.keep hb1).at s1 s1) hlen).mono ?_
  rintro e w2 ⟨rfl, hb2⟩
  go_wp2_with fail
  go_ret2
  exact ⟨rfl, hb1.trans (hb2.mono s1)⟩

set_option maxRecDepth 100000 in
set_option maxHeartbeats 4000000 in
theorem order_walk (p1 p2 : Option Addr) (c1 c2 : Nat) (l1 l2 : List UInt8) (w : World) (h1 : l1.length ≤ maxLen) (h2 : l2.length ≤ maxLen)
    (n1 : p1 = none → l1 = []) (n2 : p2 = none → l2 = []) (B1 : Bytes w.heap.size w.heap.size p1 l1 w) (B2 : Bytes w.heap.size w.heap.size p2 l2 w) (hsum : l1.length + l2.length ≤ 9223372036854775807) :
    Calls Try.prog 7 #[.slice p1 l1.length c1, .slice p2 l2.length c2] w fun e w' => e = .returned (.bool true) ∧ Below w.heap.size w w' := by
  unfold maxLen at h1 h2
  by_cases hbig : 134217728 < l1.length + l2.length
  · go_enter Try.func7, Try.ntmps7
    go_wp2_with fail
    refine (beyond_yes _ (by omega) _).mono ?_
    rintro e w1 ⟨rfl, rfl⟩
    go_wp2_with fail
    go_ret
    exact ⟨rfl, Below.refl _ _⟩
  · go_enter Try.func7, Try.ntmps7
    go_wp2_with fail
    refine (beyond_no _ (by omega) _).mono ?_
    rintro e w1 ⟨rfl, rfl⟩
    go_wp2_with fail
    go_loopw [5] (fun i wr => ∃ a : Nat, 1 ≤ a ∧ a ≤ 3 ∧ i = .int .u8 a ∧ Below w.heap.size w wr) (fun i _ => 3 - (RowKit.intOf i).toNat)
    case atStart => exact ⟨1, by omega, by omega, rfl, Below.refl _ _⟩
    case round =>
      obtain ⟨a, ha1, ha3, rfl, hw⟩ := hrel
      by_cases hlt : a ≤ 2
      · obtain ⟨q, hq⟩ : ∃ q, ((a : Int) = 1 ∧ q = 4) ∨ ((a : Int) = 2 ∧ q = 5) := by
          obtain rfl | rfl : a = 1 ∨ a = 2 := by omega
          · exact ⟨4, .inl ⟨rfl, rfl⟩⟩
          · exact ⟨5, .inr ⟨rfl, rfl⟩⟩
        have hq3 : ((a : Int) = 1 ∧ q = 4) ∨ ((a : Int) = 2 ∧ q = 5) ∨ ((a : Int) = 3 ∧ q = 6) := by omega
        have HQ := Lib.hid hq
        clear hq
        have sw := hw.size
        go_wp2_with fail
        refine (write_some a q hq3 p1 c1 l1 wr ((B1.keep hw).at sw sw) (by omega)).mono ?_
        rintro e w1 ⟨rfl, g1⟩
        have hw1 := hw.trans (g1.mono sw)
        have sw1 := hw1.size
        go_wp2_with fail
        refine (write_some a q hq3 p2 c2 l2 w1 ((B2.keep hw1).at sw1 sw1) (by omega)).mono ?_
        rintro e w2 ⟨rfl, g2⟩
        have hw2 := hw1.trans (g2.mono sw1)
        have cv1 : ∀ nq, (convert 22 9 (.slice p1 l1.length c1)).run Try.prog (w2.drewN nq) = .ok (.string ⟨l1.toArray⟩) (w2.drewN nq) := fun nq => bytes_text c1 ((B1.keep hw2).drewN nq) n1
        have cv2 : ∀ nq, (convert 22 9 (.slice p2 l2.length c2)).run Try.prog (w2.drewN nq) = .ok (.string ⟨l2.toArray⟩) (w2.drewN nq) := fun nq => bytes_text c2 ((B2.keep hw2).drewN nq) n2
        have ls1 := letters_stand a q HQ.out l1 l2
        have ls2 := letters_stand a q HQ.out l2 l1
        have lz : 0 < l1.length → (⟨((allNums q l1).map (lett a)).toArray⟩ : ByteArray).toList.isEmpty = false := fun hz => by
          rw [ByteArray.toList_eq]
          have := (all_facts q (by omega) l1).2.1
          cases hx : allNums q l1 with
          | nil => rw [hx] at this; simp at this; omega
          | cons x t => simp
        generalize (⟨((allNums q l1).map (lett a)).toArray⟩ : ByteArray) = S1 at *
        generalize (⟨((allNums q l2).map (lett a)).toArray⟩ : ByteArray) = S2 at *
        generalize (⟨l1.toArray⟩ : ByteArray) = T1 at *
        generalize (⟨l2.toArray⟩ : ByteArray) = T2 at *
        by_cases hz : 0 < l1.length
        · have lz1 := lz hz
          have lz2 : decide ((0 : Int) < (l1.length : Int)) = true := by simp; omega
          clear lz
          go_wp2_with fail
          go_quiet (first
            | (go_at_call 29; refine Calls.quiet_of_same (ahead_any _ _ _)))
          go_wp2_with fail
          go_roundw
          case rel => exact ⟨a + 1, by omega, by omega, by go_num, below_drewN _ hw2⟩
          case measure => simp [RowKit.intOf]; omega
        · have lz2 : decide ((0 : Int) < (l1.length : Int)) = false := decide_eq_false (by omega)
          clear lz
          go_wp2_with fail
          go_quiet (first
            | (go_at_call 29; refine Calls.quiet_of_same (ahead_any _ _ _)))
          go_wp2_with fail
          go_roundw
          case rel => exact ⟨a + 1, by omega, by omega, by go_num, below_drewN _ hw2⟩
          case measure => simp [RowKit.intOf]; omega
      · obtain rfl : a = 3 := by omega
        go_wp2_with fail
        go_ret
        exact ⟨rfl, hw⟩

set_option maxRecDepth 100000 in
theorem order_lifted (os : Os) (started : os.Started) (H : Type) (enc : TypeId × Value → H) :
    ReturnsInHanded {} Try.checked os 7 .any (Rows.baseOrderSpec.pre6 enc Try.prog Try.f7 Rows.baseOrderRow.domain false) (Rows.baseOrderSpec.post enc Try.prog Try.f7 false true false false) := by
  refine returnsInHanded_of_change_sized (C := Try.checked) own started (by kernel_rfl) Try.func7
    (ChangeSpec.witness6 (enc := enc) (C := Try.checked) false ⟨#[], #[.slice none 0 0, .slice none 0 0], []⟩ 8 (by kernel_rfl) (by kernel_rfl) (by kernel_rfl) (by kernel_rfl)) ?_
  intro W base args ds gs before hval0 hW _ hsz0 _
  have hsz : (DataW.weightsEach Try.prog (Try.f7.params.toList ++ Rows.baseOrderSpec.plain.varTypes Try.prog) (ds ++ gs)).all (· ≤ reachBytes) = true := hsz0
  clear hsz0
  have hval : ∀ (j : Nat) t v, Try.f7.params[j]? = some t → args[j]? = some v → Value.okWide Try.prog W .any base t v := hval0
  have hW' := hW
  obtain ⟨p, q, hA0, hV, rfl, hfz, hnd⟩ := hW
  have hA : DataW.TrodAll enc Try.prog W 0 (fun _ => true) true Try.f7.params.toList args.toList ds p := hA0
  rw [Try.params7] at hA hval hsz
  obtain ⟨v0, vs0, d0, ds0, p0, q0, hargs, rfl, rfl, h0, r0⟩ := trodAll_cons hA
  obtain ⟨v1, vs1, d1, ds1, p1, q1, rfl, rfl, rfl, h1, r1⟩ := trodAll_cons r0
  obtain ⟨rfl, rfl, rfl⟩ := trodAll_nil r1
  obtain rfl : args = #[v0, v1] := by cases args; simp_all
  obtain ⟨rfl, rfl⟩ := trodVars_none hV
  have h0k := h0
  have h1k := h1
  obtain ⟨a0, c0, l0, rfl, m0, n0, B0, s0⟩ := bytes_open (hval 0 22 v0 rfl rfl) h0 W.heap.size (Nat.le_refl _)
  obtain ⟨a1, c1, l1, rfl, m1, n1, B1, s1⟩ := bytes_open (hval 1 22 v1 rfl rfl) h1 W.heap.size (Nat.le_refl _)
  clear hA0 hval0
  simp only [List.append_nil] at hW'
  have hlt : ∀ x ∈ p0 ++ p1, x.block < W.heap.size := fun x hx => by simpa using hW'.lt x hx
  have z0 := bytes_reach hsz (j := 0) rfl rfl s0
  have z1 := bytes_reach hsz (j := 1) rfl rfl s1
  refine (order_walk a0 a1 c0 c1 l0 l1 W m0 m1 n0 n1 B0 B1 (by omega)).mono fun e W' ⟨he, hg⟩ => ?_
  subst he
  refine ⟨_, rfl, _, _, _, [], p0 ++ p1, [], hW', ?_, ?_, ?_, hg.frame _, fun h => by cases h⟩
  · exact trodAll_cons_mk (shut_bool Try.underlying4 _) trodAll_mk0
  · have t0 := Below.trod (by kernel_rfl) (by kernel_rfl) (of_decide_eq_true (by kernel_rfl)) h0k hg (fun x hx => hlt x (List.mem_append_left _ hx))
    have t1 := Below.trod (by kernel_rfl) (by kernel_rfl) (of_decide_eq_true (by kernel_rfl)) h1k hg (fun x hx => hlt x (List.mem_append_right _ hx))
    have ha := trodAll_cons_mk t0 (trodAll_cons_mk t1 trodAll_mk0)
    rw [List.append_nil] at ha
    exact ha
  · rfl

/-- BaseOrder. -/
theorem baseOrder_proved : Rows.BaseOrderSaid :=
  OpenClaim.holds_of_wide 7 Try.f7 rfl rfl rfl rfl rfl rfl rfl ⟨rfl, rfl, rfl, rfl, rfl⟩ rfl rfl rfl rfl rfl (by kernel_rfl) Try.func7 (by kernel_rfl)
    (of_decide_eq_true (by kernel_rfl)) (by unfold Func.isWrapper; first | (rw [if_pos (by decide +kernel)]; kernel_rfl) | (rw [if_neg (by decide +kernel)]; exact ⟨rfl, rfl⟩))
    (fun os started H enc _ => order_lifted os started H enc)
#print axioms baseOrder_proved
end Go.Proofs.Ytaaiikjjfleooaa
