/- Bytes that come piece by piece: the walk of the law BasePieces. -/
import Derived.Test.YtaaiikjjfleooaaPieces
import Derived.Laws.AppendOwnNone
namespace Go.Proofs.Ytaaiikjjfleooaa
open Go.ChangeShapes Go.WideShapes Go.ChangeAt Go.RowKit Go.Lib

/-- A row of rows of bytes: N slices, each of which reads as a row of bytes. -/
def Rowed (b : Nat) (p : Option Addr) (N : Nat) (P : Nat → Option Addr) (C : Nat → Nat) (L : Nat → List UInt8) (w : World) : Prop :=
  (0 < N → ∃ pb off, p = some ⟨pb, off, none⟩ ∧ pb < b ∧ ∀ i, i < N → w.cell? ⟨pb, off + i, none⟩ = some (.slice (P i) (L i).length (C i))) ∧
    ∀ i, i < N → (P i = none → L i = [] ∧ C i = 0) ∧ Bytes b b (P i) (L i) w ∧ (L i).length ≤ 140737488351232
theorem Rowed.keep {b : Nat} {p : Option Addr} {N : Nat} {P : Nat → Option Addr} {C : Nat → Nat} {L : Nat → List UInt8} {w w' : World} (h : Rowed b p N P C L w) (hb : Below b w w') : Rowed b p N P C L w' :=
  ⟨fun hN => let ⟨pb, off, hp, h1, h2⟩ := h.1 hN; ⟨pb, off, hp, h1, fun i hi => (hb.cell (p := ⟨pb, off + i, none⟩) h1).trans (h2 i hi)⟩,
    fun i hi => let ⟨h1, h2, h3⟩ := h.2 i hi; ⟨h1, h2.keep hb, h3⟩⟩

/-- The bytes of the first pieces, and how many they are, and they. -/
def cat (L : Nat → List UInt8) : Nat → List UInt8
  | 0 => []
  | k + 1 => cat L k ++ L k
def sum8 (L : Nat → List UInt8) : Nat → Nat
  | 0 => 0
  | k + 1 => sum8 L k + ((L k).length + 1)
theorem sum8_cat (L : Nat → List UInt8) : ∀ k, (cat L k).length + k = sum8 L k
  | 0 => rfl
  | k + 1 => by have := sum8_cat L k; simp only [cat, sum8, List.length_append]; omega
theorem sum8_le (L : Nat → List UInt8) {i k : Nat} (h : i ≤ k) : sum8 L i ≤ sum8 L k := by
  induction k with
  | zero => have : i = 0 := by omega
            subst this; exact Nat.le_refl _
  | succ k ih =>
    by_cases e : i = k + 1
    · subst e; exact Nat.le_refl _
    · have := ih (by omega); simp only [sum8]; omega

/-- The letters that are sure. -/
def sure (a : Int) (q : Nat) (l : List UInt8) : ByteArray := ⟨((nums q l (8 * l.length / q)).map (lett a)).toArray⟩

theorem sure_size (a : Int) (q : Nat) (hq : 4 ≤ q) (l : List UInt8) (h : l.length ≤ 134217728) : (sure a q l).size ≤ 268435456 := by
  have h1 : (sure a q l).size = 8 * l.length / q := by simp [sure, ByteArray.size, nums_length]
  have h2 : 8 * l.length / q ≤ 8 * l.length / 4 := Nat.div_le_div_left hq (by decide)
  omega
theorem told_size (a : Int) (q : Nat) (hq : 4 ≤ q) (l0 l1 : List UInt8) (h : (l0 ++ l1).length ≤ 134217728) : (told a q l0 l1).size ≤ 268435456 := by
  have h1 : (told a q l0 l1).size = 8 * (l0 ++ l1).length / q - 8 * l0.length / q := by simp only [told, ByteArray.size, List.size_toArray, List.length_map, List.length_drop, nums_length]
  have h2 : 8 * (l0 ++ l1).length / q ≤ 8 * (l0 ++ l1).length / 4 := Nat.div_le_div_left hq (by decide)
  rw [h1]
  exact Nat.le_trans (Nat.sub_le _ _) (by omega)

/-- append of a piece to a row of the call's own; nothing is appended where the piece is nil. -/
theorem wpList_append_piece {w : World} {ops : Array Oper} {rest : List Oper} {o : Oper} {a : Act} {Q : Exit → Act → World → Prop} (hgd : o.guard = none) (s x : Operand)
    (ho : o.op = .call { callee := .builtin .append, args := #[s, x], argTypes := #[22, 22] }) (base : Nat) (v : Value) (n : Nat) (xs : List UInt8) (hs : a.eval s = v) (hown : w.ownsRow base 5 1 v n (byteCells xs))
    (q : Option Addr) (m c t : Nat) (l : List UInt8) (hx : a.eval x = .slice q m c) (hl : l.length = m) (hnil : q = none → m = 0 ∧ c = 0) (b K : Nat) (hB : Bytes b K q l w) (ht : n + m = t) (hbytes : t ≤ 140737488355328) (hbase : base ≤ w.heap.size)
    (h : ∀ p cap w', w'.ownsRow base 5 1 (.slice p t cap) t (byteCells (xs ++ l)) → w.grownBy w' v.ownBlock → wpList Try.prog ops Q rest (a.put o.dst (.slice p t cap)) w') : wpList Try.prog ops Q (o :: rest) a w := by
  obtain ⟨i0, hi, hz0, hz1, hz2⟩ := info_parts infoByte
  subst hl ht
  have form : ∀ {w' : World} {v' : Value}, w'.ownsRow base 5 1 v' (n + l.length) (byteCells (xs ++ l)) → ∃ p cap, v' = .slice p (n + l.length) cap := by
    rintro w' v' h'
    rcases h'.2 with ⟨rfl, h0⟩ | ⟨g, cap, cur, rfl, _⟩
    · rw [h0]; exact ⟨none, 0, rfl⟩
    · exact ⟨_, cap, rfl⟩
  cases q with
  | none =>
    obtain ⟨h0, rfl⟩ := hnil rfl
    have hl0 : l = [] := List.eq_nil_of_length_eq_zero h0
    subst hl0
    refine wpList_append_own_none hgd s x _ ho base 5 i0 1 Try.underlying22 hi v n _ hs hown hx ?_
    have hown2 : w.ownsRow base 5 1 v (n + ([] : List UInt8).length) (byteCells (xs ++ [])) := by rw [List.append_nil]; exact hown
    obtain ⟨p, cap, rfl⟩ := form hown2
    exact h p cap w hown2 ⟨rfl, rfl, rfl, Nat.le_refl _, fun _ _ _ => rfl⟩
  | some ad =>
    refine wpList_append_own w hgd s x _ ho base 5 i0 (.int .u8 0) 1 1 Try.underlying22 hi hz0 hz1 hz2 rfl (by decide) v n (byteCells xs) hs hown ad l.length c (byteCells l) hx (by rw [byteCells_length, Nat.mul_one]) ?_ ?_ (by unfold maxLen; omega) (by omega) hbase ?_
    · intro j u hj
      have hj' : j < l.length := by
        have := (List.getElem?_eq_some_iff.1 hj).1
        rwa [byteCells_length] at this
      obtain ⟨pb, off, hp, _, _, hc⟩ := hB (by intro e; rw [e] at hj'; simp at hj')
      cases hp
      rw [Addr.add_lit, hc j hj']
      simp [byteCells, List.getElem?_eq_getElem hj'] at hj
      rw [hj]
    · intro u hu
      simp only [byteCells, List.mem_map] at hu
      obtain ⟨y, _, rfl⟩ := hu
      rfl
    · intro v' w' hown' hg _
      rw [← byteCells_append] at hown'
      obtain ⟨p, cap, rfl⟩ := form hown'
      exact h p cap w' hown' hg

/-- A row of bytes of the call's own, as a row that reads. -/
theorem owns_bytes {w : World} {B n : Nat} {v : Value} {L : List UInt8} (h : w.ownsRow B 5 1 v n (byteCells L)) (hn : L.length = n) :
    ∃ p cap, v = .slice p n cap ∧ (p = none → L = []) ∧ Bytes w.heap.size w.heap.size p L w := by
  subst hn
  have hc := fun g hg => h.cells (g := g) hg
  rcases h.2 with ⟨rfl, h0⟩ | ⟨g, cap, cur, rfl, hB, hg, _⟩
  · have : L = [] := List.eq_nil_of_length_eq_zero (by simpa using h0)
    subst this
    exact ⟨none, 0, rfl, fun _ => rfl, fun h => absurd rfl h⟩
  · have hlt := (Array.getElem?_eq_some_iff.1 hg).1
    refine ⟨_, cap, rfl, fun h => (by cases h), fun _ => ⟨g, 0, rfl, hlt, by omega, fun j hj => ?_⟩⟩
    have := hc g rfl j (.int .u8 L[j].toNat) (by simp [byteCells, List.getElem?_eq_getElem hj])
    rw [Nat.zero_add]
    rw [Addr.add_lit, Nat.zero_add] at this
    exact this

/-- What was sure and the last letter: all letters. -/
theorem sure_last (a : Int) (q : Nat) (l : List UInt8) : sure a q l ++ ⟨((lastOf q l).map (lett a)).toArray⟩ = lettersOf a q l := by
  unfold sure lettersOf
  rw [← all_split]
  apply ByteArray.ext
  simp only [ByteArray.data_append]
  apply Array.ext'
  simp

set_option maxRecDepth 100000 in
set_option maxHeartbeats 8000000 in
theorem pieces_walk (a : Int) (p : Option Addr) (N cap : Nat) (P : Nat → Option Addr) (C : Nat → Nat) (L : Nat → List UInt8) (w : World) (hN : N ≤ 140737488351232) (hR : Rowed w.heap.size p N P C L w) :
    Calls Try.prog 9 #[.int .i64 a, .slice p N cap] w fun e w' => e = .returned (.bool true) ∧ Below w.heap.size w w' := by
  have HR := Lib.hid hR
  clear hR
  go_enter Try.func9, Try.ntmps9
  go_wp2_with fail
  obtain ⟨wo, rfl⟩ : ∃ wo : World, wo = w := ⟨_, rfl⟩
  go_loop [5, 6] (fun x i => ∃ k : Nat, k ≤ N ∧ x = .int .i64 (sum8 L k) ∧ i = .int .i64 k ∧ sum8 L k ≤ 281474976710656) (fun _ i => N - (RowKit.intOf i).toNat)
  case atStart => exact ⟨0, Nat.zero_le _, rfl, rfl, Nat.zero_le _⟩
  case round =>
    obtain ⟨k, hk, rfl, rfl, hle⟩ := hrel
    by_cases hbig : 134217728 < sum8 L k
    · have e1 : decide ((134217728 : Int) < (sum8 L k : Int)) = true := decide_eq_true (by omega)
      by_cases hkN : k < N
      · go_wp2_with fail
        refine (beyond_any _ _).mono ?_
        rintro e w1 ⟨rfl, rfl⟩
        go_wp2_with fail
        refine (beyond_any _ _).mono ?_
        rintro e w1 ⟨rfl, rfl⟩
        go_wp2_with fail
        go_ret
        exact ⟨rfl, Below.refl _ _⟩
      · obtain rfl : N = k := by omega
        go_wp2_with fail
        refine (beyond_any _ _).mono ?_
        rintro e w1 ⟨rfl, rfl⟩
        go_wp2_with fail
        go_ret
        exact ⟨rfl, Below.refl _ _⟩
    · have e1 : decide ((134217728 : Int) < (sum8 L k : Int)) = false := decide_eq_false (by omega)
      by_cases hkN : k < N
      · obtain ⟨pb, off, rfl, hpb, hcs⟩ := HR.out.1 (by omega)
        have hcell := hcs k hkN
        have hlk := (HR.out.2 k hkN).2.2
        have hts : sum8 L (k + 1) = sum8 L k + ((L k).length + 1) := rfl
        have HTS := Lib.hid hts
        clear hcs hts
        go_wp2_with fail
        refine (beyond_any _ _).mono ?_
        rintro e w1 ⟨rfl, rfl⟩
        go_wp2_with fail
        go_round
        case rel => exact ⟨k + 1, by omega, by rw [HTS.out]; go_num, by go_num, by rw [HTS.out]; omega⟩
        case measure => simp [RowKit.intOf]; omega
      · obtain rfl : N = k := by omega
        have HT := Lib.hid (show sum8 L N ≤ 134217728 by omega)
        clear hkN hbig hk
        go_wp2_with fail
        refine (beyond_any _ _).mono ?_
        rintro e w1 ⟨rfl, rfl⟩
        obtain ⟨u, hu, hu0, hu1⟩ : ∃ u : Int, a % 256 = u ∧ 0 ≤ u ∧ u ≤ 255 := ⟨a % 256, rfl, by omega, by omega⟩
        by_cases hau : a = u
        case neg =>
          have e2 : (a != u) = true := by rw [bne_iff_ne]; exact hau
          clear hau
          go_wp2_with fail
          go_ret
          exact ⟨rfl, Below.refl _ _⟩
        subst hau
        have e2 : (a != a) = false := by simp
        by_cases h3 : a = 1 ∨ a = 2 ∨ a = 3
        case neg =>
          have HNn := Lib.hid (fun w => new_none a hu0 hu1 (by omega) w)
          go_wp2_with fail
          refine (HNn.out _).mono ?_
          rintro e w1 ⟨rfl, hb1⟩
          go_wp2_with fail
          refine (refBits_none a (by omega) _).mono ?_
          rintro e w2 ⟨rfl, rfl⟩
          go_wp2_with fail
          refine (errno_arg _).mono ?_
          rintro e w2 ⟨rfl, rfl⟩
          go_wp2_with fail
          go_ret
          exact ⟨rfl, hb1⟩
        obtain ⟨q, hq⟩ : ∃ q, (a = 1 ∧ q = 4) ∨ (a = 2 ∧ q = 5) ∨ (a = 3 ∧ q = 6) := by
          rcases h3 with h | h | h
          · exact ⟨4, .inl ⟨h, rfl⟩⟩
          · exact ⟨5, .inr (.inl ⟨h, rfl⟩)⟩
          · exact ⟨6, .inr (.inr ⟨h, rfl⟩)⟩
        have ha1 : 1 ≤ a := by omega
        have ha3 : a ≤ 3 := by omega
        have hq0 : (((q : Nat) : Int) == 0) = false := beq_eq_false_iff_ne.2 (by omega)
        have hq4 : 4 ≤ q := by omega
        have hq6 : q ≤ 6 := by omega
        have HQ := Lib.hid hq
        clear hq h3 hu
        go_wp2_with fail
        refine (new_some a q HQ.out _).mono ?_
        rintro e w1 ⟨K, rfl, hK, hW, hb1⟩
        go_wp2_with fail
        refine (refBits_some a q HQ.out _).mono ?_
        rintro e w2 ⟨rfl, rfl⟩
        go_wp2_with fail
        have HLen := Lib.hid (show ∀ k, k ≤ N → (cat L k).length ≤ 134217728 by
          intro k hk
          have h1 := sum8_cat L k
          have h2 := sum8_le L hk
          have h3 := HT.out
          omega)
        go_loopw [9] (fun r wr => ∃ k : Nat, k ≤ 2 ∧ r = .int .i64 k ∧ Wr a 0 0 K wr ∧ Below wo.heap.size wo wr) (fun r _ => 2 - (RowKit.intOf r).toNat)
        case atStart => exact ⟨0, by omega, rfl, hW, hb1⟩
        case round =>
          clear hW hb1
          obtain ⟨r, hr2, rfl, hW0, hB0⟩ := hrel
          by_cases hr : r < 2
          · have hrd : decide ((r : Int) < 2) = true := decide_eq_true (by omega)
            go_wp2_with fail
            go_loopw [10, 11, 12] (fun v t i wr => ∃ k : Nat, k ≤ N ∧ i = .int .i64 k ∧ t = .string (sure a q (cat L k)) ∧ wr.ownsRow (K + 1) 5 1 v (cat L k).length (byteCells (cat L k)) ∧ Wr a (wbits (cat L k)) (left8 q (cat L k)) K wr ∧ Below wo.heap.size wo wr) (fun _ _ i _ => N - (RowKit.intOf i).toNat)
            case atStart =>
              refine ⟨0, Nat.zero_le _, rfl, ?_, World.ownsRow_nil _ _ _ _, ?_, hB0⟩
              · simp [sure, cat, nums]
              · unfold wbits left8; simpa [val, cat] using hW0
            case round =>
              clear hW0 hB0
              obtain ⟨k, hk, rfl, rfl, hown, hW, hB⟩ := hrel
              obtain ⟨wq, rfl⟩ : ∃ wq : World, wq = wr := ⟨_, rfl⟩
              by_cases hkN : k < N
              · obtain ⟨pb, off, rfl, hpb, hcs⟩ := (HR.out.keep hB).1 (by omega)
                have hcell := hcs k hkN
                obtain ⟨hnil, hby, hl47⟩ := (HR.out.keep hB).2 k hkN
                have sB := hB.size
                have hKl : K < wq.heap.size := (Array.getElem?_eq_some_iff.1 hW).1
                have hcat := HLen.out (k + 1) hkN
                have hcl : (cat L (k + 1)).length = (cat L k).length + (L k).length := by simp [cat]
                have hRo := roomy_any (P k) (C k) (L k) wq (hby.at sB sB) hl47
                have HRo := Lib.hid hRo
                have HOwn := Lib.hid hown
                have HNil := Lib.hid hnil
                have HBy := Lib.hid hby
                obtain ⟨m, hm⟩ : ∃ m, (L k).length = m := ⟨_, rfl⟩
                rw [hm] at HRo hcell hl47 hcl
                have HM := Lib.hid hm
                have hm27 : m ≤ 134217728 := by omega
                clear hRo hcs hnil hby hown hm
                go_wp2_with fail
                refine HRo.out.mono ?_
                rintro e w2 ⟨rfl, hroom, hb2⟩
                have hWw := hW
                have z2 : wq.heap.size < w2.heap.size := (Array.getElem?_eq_some_iff.1 hroom).1
                have hW2 : Wr a (wbits (cat L k)) (left8 q (cat L k)) K w2 := (hb2.block K hKl).trans hW
                have HP := put_piece a q HQ.out K (some ⟨wq.heap.size, 0, none⟩) (m + 2) (cat L k) (L k) w2 hW2 (roomy_bytes hroom z2 (by omega)) (by rw [HM.out]; exact hm27)
                rw [HM.out] at HP
                have HPp := Lib.hid HP
                have htm := told_more a q (cat L k) (L k)
                have hS : (⟨((nums q (cat L k) (8 * (cat L k).length / q)).map (lett a)).toArray⟩ : ByteArray) = sure a q (cat L k) := rfl
                have hS2 : (⟨((nums q (cat L k ++ L k) (8 * (cat L k ++ L k).length / q)).map (lett a)).toArray⟩ : ByteArray) = sure a q (cat L (k + 1)) := rfl
                rw [hS, hS2] at htm
                have hz1 := sure_size a q hq4 (cat L k) (HLen.out k hk)
                have hz2 := told_size a q hq4 (cat L k) (L k) hcat
                obtain ⟨T1, hT1⟩ : ∃ T1, told a q (cat L k) (L k) = T1 := ⟨_, rfl⟩
                obtain ⟨S1, hS1⟩ : ∃ S1, sure a q (cat L k) = S1 := ⟨_, rfl⟩
                obtain ⟨S2, hS2'⟩ : ∃ S2, sure a q (cat L (k + 1)) = S2 := ⟨_, rfl⟩
                rw [hT1, hS1, hS2'] at htm
                rw [hS1] at hz1
                rw [hT1] at hz2
                rw [hT1] at HPp
                rw [hS1]
                have HS2 := Lib.hid hS2'
                clear HP hS hS2 hT1 hS1 hS2' hW hWw hW2
                go_wp2_with fail
                refine HPp.out.mono ?_
                rintro e w3 ⟨rfl, hW3, hb3⟩
                have g2 : Below wo.heap.size wo w2 := hB.trans (hb2.mono sB)
                have g3 : Below wo.heap.size wo w3 := g2.trans (hb3.below hK g2.size)
                have hr3 : Roomy wq.heap.size (L k) w3 := (hb3.block _ z2 (by omega)).trans hroom
                have s3 := hb3.size
                obtain ⟨_, _, hp3, hpb3, hcs3⟩ := (HR.out.keep g3).1 (by omega)
                cases hp3
                have hcell3 := hcs3 k hkN
                rw [HM.out] at hcell3
                have HLf := left_yes wq.heap.size (P k) (C k) (L k) w3 wo.heap.size wo.heap.size ((HR.out.keep g3).2 k hkN).2.1 (fun h => (HNil.out h).1) hr3 (by rw [HM.out]; exact hl47)
                rw [HM.out] at HLf
                have HLft := Lib.hid HLf
                clear HLf hcs3 hcell
                go_wp2_with fail
                refine HLft.out.mono ?_
                rintro e w4 ⟨rfl, rfl⟩
                go_wp2_with fail
                have hcl3 : (byteCells (L k) ++ [Value.int .u8 7, Value.int .u8 8]).toArray.size = m + 2 := by simp [byteCells_length, HM.out]
                obtain ⟨R, hRr⟩ : ∃ R, (byteCells (L k) ++ [Value.int .u8 7, Value.int .u8 8]).toArray = R := ⟨_, rfl⟩
                have hr3' : w3.heap[wq.heap.size]? = some (.cells R 5 (0, 0)) := by rw [← hRr]; exact hr3
                rw [hRr] at hcl3
                clear hRr hr3 hroom
                go_loopw [14] (fun i wr => ∃ (j : Nat) (cs : Array Value), j ≤ m ∧ i = .int .i64 j ∧ cs.size = m + 2 ∧ wr.heap[wq.heap.size]? = some (.cells cs 5 (0, 0)) ∧ Below wq.heap.size w3 wr) (fun i _ => m - (RowKit.intOf i).toNat)
                case atStart => exact ⟨0, R, Nat.zero_le _, rfl, hcl3, hr3', Below.refl _ _⟩
                case round =>
                  clear hcl3 hr3'
                  obtain ⟨j, cs, hj, rfl, hcs, hh, hz⟩ := hrel
                  by_cases hjm : j < m
                  · have hc0 : wr.cell? ⟨wq.heap.size, j, none⟩ = some (cs[j]'(by omega)) := by rw [cell_of_heap hh]; exact Array.getElem?_eq_getElem (by omega)
                    have hf0 : wr.frozen? ⟨wq.heap.size, j, none⟩ = false := frozen_of_heap hh _
                    have hset := row_set (i := j) hh (.int .u8 255)
                    have hzs := hz.setCell (p := ⟨wq.heap.size, j, none⟩) (Nat.le_refl _) (.int .u8 255)
                    obtain ⟨v0, hv0⟩ : ∃ v0, (cs[j]'(by omega)) = v0 := ⟨_, rfl⟩
                    rw [hv0] at hc0
                    have HSet := Lib.hid hset
                    have HCs := Lib.hid hcs
                    clear hv0 hset hh hcs
                    go_wp2_with fail
                    go_roundw
                    case rel => exact ⟨j + 1, _, by omega, by go_num, by rw [Array.size_setIfInBounds]; exact HCs.out, HSet.out, hzs⟩
                    case measure => simp [RowKit.intOf]; omega
                  · obtain rfl : m = j := by omega
                    clear hh hcs hj hjm
                    have gz : Below wo.heap.size wo wr := g3.trans (hz.mono sB)
                    have hWz : Wr a (wbits (cat L k ++ L k)) (left8 q (cat L k ++ L k)) K wr := (hz.block K hKl).trans hW3
                    have hownz : wr.ownsRow (K + 1) 5 1 u10 (cat L k).length (byteCells (cat L k)) := owns_keeps HOwn.out fun i hi1 hi2 =>
                      (hz.block i hi2).trans ((hb3.block i (by have := hb2.size; omega) (by omega)).trans (hb2.block i hi2))
                    obtain ⟨_, _, hp4, hpb4, hcs4⟩ := (HR.out.keep gz).1 (by omega)
                    cases hp4
                    have hcell4 := hcs4 k hkN
                    rw [HM.out] at hcell4
                    have hby4 := ((HR.out.keep gz).2 k hkN).2.1
                    obtain ⟨t, ht⟩ : ∃ t, (cat L (k + 1)).length = t := ⟨_, rfl⟩
                    rw [ht] at hcl hcat
                    have HTl := Lib.hid ht
                    have hcl' := hcl.symm
                    have hKw : K + 1 ≤ wr.heap.size := by have := hz.size; have := hb3.size; omega
                    have hnil4 : P k = none → m = 0 ∧ C k = 0 := fun h => by
                      obtain ⟨h1, h2⟩ := HNil.out h
                      rw [← HM.out, h1]
                      exact ⟨rfl, h2⟩
                    clear hcs4 hcell3 htm ht hcl
                    go_wp2_with (at_builtin; refine wpList_append_piece rfl _ _ rfl (K + 1) u10 (cat L k).length (cat L k) rfl hownz (P k) m (C k) t (L k) rfl HM.out hnil4 wo.heap.size wo.heap.size hby4 hcl' (by omega) hKw ?_)
                    intro p5 cap5 w5 hown5 hgrow
                    have hown5' : w5.ownsRow (K + 1) 5 1 (.slice p5 t cap5) t (byteCells (cat L (k + 1))) := hown5
                    have hW5 : Wr a (wbits (cat L (k + 1))) (left8 q (cat L (k + 1))) K w5 := (hgrow.block K (by omega) (fun e => by have := (hownz.lt _ e.symm).1; omega)).trans hWz
                    have g5 : Below wo.heap.size wo w5 := gz.grown hgrow gz.size (fun i hi => by have := (hownz.lt _ hi).1; omega)
                    obtain ⟨_, _, hv5, hn5, hB5⟩ := owns_bytes hown5' HTl.out
                    cases hv5
                    have hwr5 := refWrite_some a q HQ.out p5 cap5 (cat L (k + 1)) w5 hB5 (by rw [HTl.out]; exact hcat)
                    rw [HTl.out] at hwr5
                    have hA : (⟨((allNums q (cat L (k + 1))).map (lett a)).toArray⟩ : ByteArray) = lettersOf a q (cat L (k + 1)) := rfl
                    have hcut := cut_sure a q (cat L (k + 1))
                    have hS : (⟨((nums q (cat L (k + 1)) (8 * (cat L (k + 1)).length / q)).map (lett a)).toArray⟩ : ByteArray) = sure a q (cat L (k + 1)) := rfl
                    have hds : 8 * (cat L (k + 1)).length / q ≤ (lettersOf a q (cat L (k + 1))).size := by
                      have h1 : (lettersOf a q (cat L (k + 1))).size = (allNums q (cat L (k + 1))).length := by simp [lettersOf, ByteArray.size]
                      rw [h1, ← all_split, List.length_append, nums_length]
                      exact Nat.le_add_right _ _
                    rw [hA] at hwr5
                    rw [hS, HS2.out] at hcut
                    rw [HTl.out] at hcut hds
                    obtain ⟨A, hAA⟩ : ∃ A, lettersOf a q (cat L (k + 1)) = A := ⟨_, rfl⟩
                    obtain ⟨d, hd⟩ : ∃ d, 8 * t / q = d := ⟨_, rfl⟩
                    rw [hAA] at hwr5 hcut hds
                    rw [hd] at hcut hds
                    have hdi : 8 * (t : Int) / (q : Int) = (d : Int) := by rw [← hd, Int.natCast_ediv]; rfl
                    have hsl : ∀ w : World, (Instr.slice 9 (.string A) none (some (.int .i64 (d : Int))) none).run Try.prog w = .ok (.string S2) w := fun w => by
                      rw [run_slice_string_h w 9 A Try.underlying9 .i64 (d : Int) (by omega) (by omega), Int.toNat_natCast, hcut]
                    have HWr5 := Lib.hid hwr5
                    clear hown5 hgrow hB5 hn5 hwr5 hA hcut hS hds hAA hd hownz hWz hW3 hby4 hcell4
                    go_wp2_with fail
                    refine (refBits_some a q HQ.out _).mono ?_
                    rintro e w6 ⟨rfl, rfl⟩
                    go_wp2_with fail
                    refine HWr5.out.mono ?_
                    rintro e w6 ⟨rfl, hb6⟩
                    have s5 := g5.size
                    have hK5 : K < w5.heap.size := (Array.getElem?_eq_some_iff.1 hW5).1
                    go_wp2_with fail
                    go_roundw
                    case rel =>
                      exact ⟨k + 1, by omega, by go_num, by rw [HS2.out], by rw [HTl.out]; exact owns_keeps hown5' (fun i _ hi => hb6.block i hi), (hb6.block K hK5).trans hW5, g5.trans (hb6.mono s5)⟩
                    case measure => simp [RowKit.intOf]; omega
              · obtain rfl : N = k := by omega
                obtain ⟨p5, cap5, rfl, hn5, hB5⟩ := owns_bytes hown rfl
                have hKl : K < wq.heap.size := (Array.getElem?_eq_some_iff.1 hW).1
                have sB := hB.size
                have hEnd := end_some a q HQ.out K (cat L N) wq hW
                have hsl := sure_last a q (cat L N)
                have hz1 := sure_size a q hq4 (cat L N) (HLen.out N (Nat.le_refl _))
                have hz2 : (⟨((lastOf q (cat L N)).map (lett a)).toArray⟩ : ByteArray).size ≤ 1 := by
                  have : (lastOf q (cat L N)).length ≤ 1 := by unfold lastOf; split <;> simp
                  simpa [ByteArray.size] using this
                have hcat := HLen.out N (Nat.le_refl _)
                obtain ⟨t, ht⟩ : ∃ t, (cat L N).length = t := ⟨_, rfl⟩
                have HTl := Lib.hid ht
                obtain ⟨S1, hS1⟩ : ∃ S1, sure a q (cat L N) = S1 := ⟨_, rfl⟩
                obtain ⟨E1, hE1⟩ : ∃ E1, (⟨((lastOf q (cat L N)).map (lett a)).toArray⟩ : ByteArray) = E1 := ⟨_, rfl⟩
                obtain ⟨A, hA⟩ : ∃ A, lettersOf a q (cat L N) = A := ⟨_, rfl⟩
                rw [hS1] at hz1 hsl ⊢
                rw [hE1] at hEnd hz2 hsl
                rw [hA] at hsl
                rw [ht] at hcat
                have HEnd := Lib.hid hEnd
                have HA := Lib.hid hA
                have HOw := Lib.hid hown
                rw [ht]
                clear hEnd hS1 hE1 hA hB5 hn5 hown ht
                go_wp2_with fail
                refine HEnd.out.mono ?_
                rintro e w6 ⟨rfl, hW6, hb6⟩
                have g6 : Below wo.heap.size wo w6 := hB.trans (hb6.below hK sB)
                have s6 := hb6.size
                have hown6 := owns_keeps HOw.out (w' := w6) fun i hi1 hi2 => hb6.block i hi2 (by omega)
                obtain ⟨_, _, hv6, _, hB6⟩ := owns_bytes hown6 rfl
                cases hv6
                have hwr := refWrite_some a q HQ.out p5 cap5 (cat L N) w6 hB6 (by rw [HTl.out]; exact hcat)
                have hAA : (⟨((allNums q (cat L N)).map (lett a)).toArray⟩ : ByteArray) = lettersOf a q (cat L N) := rfl
                rw [hAA, HA.out, HTl.out] at hwr
                have HWr := Lib.hid hwr
                clear hwr hAA hB6 hown6
                go_wp2_with fail
                refine HWr.out.mono ?_
                rintro e w7 ⟨rfl, hb7⟩
                have hK6 : K < w6.heap.size := (Array.getElem?_eq_some_iff.1 hW6).1
                have hW7 : Wr a 0 0 K w7 := (hb7.block K hK6).trans hW6
                have hW7' : Wr a (wbits []) (left8 q []) K w7 := by unfold wbits left8; simpa [val] using hW7
                have g7 : Below wo.heap.size wo w7 := g6.trans (hb7.mono g6.size)
                have hE2 := end_some a q HQ.out K [] w7 hW7'
                have hnil : (⟨((lastOf q []).map (lett a)).toArray⟩ : ByteArray) = ⟨#[]⟩ := by simp [lastOf, left8]
                rw [hnil] at hE2
                have HE2 := Lib.hid hE2
                clear hE2 hnil hW7'
                go_wp2_with fail
                refine HE2.out.mono ?_
                rintro e w8 ⟨rfl, hW8, hb8⟩
                have g8 : Below wo.heap.size wo w8 := g7.trans (hb8.below hK g7.size)
                go_wp2_with fail
                go_roundw
                case rel => exact ⟨r + 1, by omega, by go_num, hW8, g8⟩
                case measure => simp [RowKit.intOf]; omega
          · obtain rfl : r = 2 := by omega
            go_wp2_with fail
            go_ret
            exact ⟨rfl, hB0⟩
end Go.Proofs.Ytaaiikjjfleooaa
