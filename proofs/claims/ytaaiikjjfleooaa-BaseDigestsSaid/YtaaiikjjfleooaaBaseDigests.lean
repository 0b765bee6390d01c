/- The law BaseDigests holds: digests as letters, and back; of texts of more than 2^27 bytes the law asks nothing. -/
import Derived.Test.YtaaiikjjfleooaaDigest
import Derived.ChangeMaps5
namespace Go.Proofs.Ytaaiikjjfleooaa
open Go.ChangeMaps Go.ChangeShapes Go.WideShapes Go.ChangeAt Go.RowKit Go.Lib

theorem own : ownKnob Try.prog.godebug = none := by kernel_rfl

/-- What is written of a digest is read as it. -/
theorem toDigest_back (D : List UInt8) (hD : D.length = 32) (w : World) :
    Calls Try.prog 31 #[.string (lettersOf 1 4 D)] w fun e w' => e = .returned (.tuple #[dig D, .nilIface]) ∧ Below w.heap.size w w' := by
  have hl : (lettersOf 1 4 D).data.size ≤ 140737488351232 := by
    have : (lettersOf 1 4 D).data.size = (allNums 4 D).length := by simp [lettersOf]
    rw [this, all_len 4 (by decide), hD]
    decide
  refine (toDigest_any (lettersOf 1 4 D) hl w).mono ?_
  rintro e w' ⟨x, er, rfl, h, hb⟩
  refine ⟨?_, hb⟩
  have hs : (lettersOf 1 4 D).data.toList = (allNums 4 D).map (lett 1) := rfl
  rw [hs] at h
  obtain ⟨r1, r2, r3, r4⟩ := read_write 1 4 (by decide) D
  rw [← List.length_map (f := lett 1)] at r2
  rcases h with ⟨i, c, k1, k2, _⟩ | ⟨_, k2, _⟩ | ⟨_, _, k3, _⟩ | ⟨_, _, _, k4, _⟩ | ⟨_, _, _, _, rfl, rfl⟩
  · exact (good_not_bad r1 k1 k2).elim
  · exact absurd r2 k2
  · exact absurd r3 k3
  · rw [r4] at k4; exact absurd hD k4
  · rw [r4]

/-- The two answers on a text. -/
def DigBoth (s : List UInt8) (D2 : List UInt8) (e : Value) (B' : Nat) (v' : Value) (n1 n2 : Int) (w' : World) : Prop :=
  (n1 ≠ 0 ∧ D2 = zeros ∧ e = .iface 78 (.agg #[.int .i64 n1, .int .i64 n2])) ∨
  (n1 = 0 ∧ ∃ g L, B' ≤ g ∧ v' = .slice (some ⟨g, 0, none⟩) L.length L.length ∧ Whole g L w' ∧ L.length ≤ s.length ∧
    ((L.length ≠ 32 ∧ D2 = zeros ∧ e = .iface 35 (.int .i64 2)) ∨ (L.length = 32 ∧ D2 = L ∧ e = .nilIface)))

theorem digAs_form {s : List UInt8} {x e : Value} (h : DigAs s x e) : ∃ D2 : List UInt8, x = dig D2 ∧ D2.length = 32 ∧ ∀ (B' : Nat) (v' : Value) (n1 n2 : Int) (w' : World), RefAs 1 4 s B' v' n1 n2 w' → DigBoth s D2 e B' v' n1 n2 w' := by
  have hlen : (readOf 1 4 s).length ≤ s.length := by rw [readOf_length]; omega
  rcases h with ⟨i, c, h1, h2, h3, rfl, rfl⟩ | ⟨h1, h2, rfl, rfl⟩ | ⟨h1, h2, h3, rfl, rfl⟩ | ⟨h1, h2, h3, h4, rfl, rfl⟩ | ⟨h1, h2, h3, h4, rfl, rfl⟩
  · refine ⟨zeros, rfl, rfl, fun B' v' n1 n2 w' k => ?_⟩
    rcases k with ⟨j, d, k1, k2, k3, rfl, rfl, rfl⟩ | ⟨k1, _⟩ | ⟨k1, _⟩ | ⟨k1, _⟩
    · have := first_bad h1 h2 h3 k1 k2 k3
      subst this
      exact .inl ⟨by decide, rfl, rfl⟩
    · exact (good_not_bad k1 h1 h2).elim
    · exact (good_not_bad k1 h1 h2).elim
    · exact (good_not_bad k1 h1 h2).elim
  · refine ⟨zeros, rfl, rfl, fun B' v' n1 n2 w' k => ?_⟩
    rcases k with ⟨j, d, k1, k2, k3, rfl, rfl, rfl⟩ | ⟨k1, k2, rfl, rfl, rfl⟩ | ⟨_, k2, _⟩ | ⟨_, k2, _⟩
    · exact (good_not_bad h1 k1 k2).elim
    · exact .inl ⟨by decide, rfl, rfl⟩
    · exact absurd k2 h2
    · exact absurd k2 h2
  · refine ⟨zeros, rfl, rfl, fun B' v' n1 n2 w' k => ?_⟩
    rcases k with ⟨j, d, k1, k2, k3, rfl, rfl, rfl⟩ | ⟨_, k2, _⟩ | ⟨k1, k2, k3, rfl, rfl, rfl⟩ | ⟨_, _, k3, _⟩
    · exact (good_not_bad h1 k1 k2).elim
    · exact absurd h2 k2
    · exact .inl ⟨by decide, rfl, rfl⟩
    · exact absurd k3 h3
  · refine ⟨zeros, rfl, rfl, fun B' v' n1 n2 w' k => ?_⟩
    rcases k with ⟨j, d, k1, k2, k3, rfl, rfl, rfl⟩ | ⟨_, k2, _⟩ | ⟨_, _, k3, _⟩ | ⟨_, _, _, rfl, rfl, g, hg, rfl, hw⟩
    · exact (good_not_bad h1 k1 k2).elim
    · exact absurd h2 k2
    · exact absurd h3 k3
    · exact .inr ⟨rfl, g, _, hg, rfl, hw, hlen, .inl ⟨h4, rfl, rfl⟩⟩
  · refine ⟨_, rfl, h4, fun B' v' n1 n2 w' k => ?_⟩
    rcases k with ⟨j, d, k1, k2, k3, rfl, rfl, rfl⟩ | ⟨_, k2, _⟩ | ⟨_, _, k3, _⟩ | ⟨_, _, _, rfl, rfl, g, hg, rfl, hw⟩
    · exact (good_not_bad h1 k1 k2).elim
    · exact absurd h2 k2
    · exact absurd h3 k3
    · exact .inr ⟨rfl, g, _, hg, rfl, hw, hlen, .inr ⟨h4, rfl, rfl⟩⟩

theorem row_bytes {g K b : Nat} {t : TypeId} {l : List UInt8} {w : World} (h : w.heap[g]? = some (.cells (byteCells l).toArray t (0, 0))) (hb : g < b) (hK : g ≠ K) : Bytes b K (some ⟨g, 0, none⟩) l w := fun _ =>
  ⟨g, 0, rfl, hb, hK, fun j hj => by
    rw [cell_of_heap h, Nat.zero_add]
    simp [byteCells, List.getElem?_eq_getElem hj]⟩

/-- A load of a whole row that is guarded, and asked for. -/
theorem wpList_load_asked {P : Program} {ops : Array Oper} {rest : List Oper} {o : Oper} {a : Act} {w : World} {Q : Exit → Act → World → Prop} (hw : Region.wanted o (yielded ops a.tmps) = true) (ty : TypeId) (x : Operand) (ho : o.op = .load ty x)
    (g : Nat) (hx : a.eval x = .pointer (some ⟨g, 0, none⟩)) (t : TypeId) (cs : Array Value) (fr : Nat × Nat) (d : TypeDesc) (hg : w.heap[g]? = some (.cells cs t fr))
    (hu : P.underlying ty = some d) (hd : (match d with | .struct _ | .array _ _ => true | _ => false) = true) (hi : (P.info? ty).map (·.size) = some cs.size)
    (h : wpList P ops Q rest (a.put o.dst (.agg cs)) w) : wpList P ops Q (o :: rest) a w :=
  wpList_step fun K hK => by rw [if_pos hw]; exact wp_load_row ty x ho g hx t cs fr d hg hu hd hi (hK _ _ h)

set_option maxRecDepth 100000 in
set_option maxHeartbeats 1000000 in
theorem digests_walk (D : List UInt8) (hD : D.length = 32) (s0 : ByteArray) (hlen : s0.data.size ≤ 140737488351232) (w : World) :
    Calls Try.prog 8 #[.agg (byteCells D).toArray, .string s0] w fun e w' => e = .returned (.bool true) ∧ Below w.heap.size w w' := by
  obtain ⟨n, hsn⟩ : ∃ n, s0.size = n := ⟨_, rfl⟩
  have hlen' : n ≤ 140737488351232 := by rw [← hsn]; exact hlen
  have HTo := Lib.hid (fun w => toDigest_any s0 hlen w)
  clear hlen
  obtain ⟨X, hX⟩ : ∃ X, (byteCells D).toArray = X := ⟨_, rfl⟩
  rw [hX]
  have HX := Lib.hid hX
  have hsX : (Try.prog.info? 55).map (·.size) = some X.size := by rw [← hX]; exact dig_size D hD
  have h1X : X.all (·.oneCell') = true := by rw [← hX]; exact dig_one D
  have HSX := Lib.hid hsX
  have H1X := Lib.hid h1X
  have HDg := Lib.hid (fun w => digest_any D hD w)
  have HBk := Lib.hid (fun w => toDigest_back D hD w)
  have HEq := Lib.hid (fun w => dig_same D hD w)
  unfold dig at HDg HBk HEq
  rw [hX] at HDg HBk HEq
  have HRW := Lib.hid (fun (p : Option Addr) (w : World) (h : Bytes w.heap.size w.heap.size p D w) => refWrite_some 1 4 (by decide) p 32 D w h (by omega))
  rw [hD] at HRW
  have ht : (⟨((allNums 4 D).map (lett 1)).toArray⟩ : ByteArray) = lettersOf 1 4 D := rfl
  rw [ht] at HRW
  obtain ⟨T, hT⟩ : ∃ T, lettersOf 1 4 D = T := ⟨_, rfl⟩
  rw [hT] at HDg HBk HRW
  clear hX hsX h1X hT ht
  by_cases hbig : 134217728 < n
  · have e1 : decide ((134217728 : Int) < (n : Int)) = true := decide_eq_true (by omega)
    go_enter Try.func8, Try.ntmps8
    go_wp2_with fail
    refine (beyond_any _ _).mono ?_
    rintro e w1 ⟨rfl, rfl⟩
    go_wp2_with fail
    go_ret
    exact ⟨rfl, by go_grown⟩
  have e1 : decide ((134217728 : Int) < (n : Int)) = false := decide_eq_false (by omega)
  have hs27 : s0.data.toList.length ≤ 134217728 := by
    have : s0.data.toList.length = n := by rw [Array.length_toList]; exact hsn
    omega
  have HRf := Lib.hid (fun w => refRead_some 1 4 (by decide) s0.data.toList hs27 w)
  rw [show (⟨s0.data.toList.toArray⟩ : ByteArray) = s0 from rfl] at HRf
  have HS27 := Lib.hid hs27
  clear hbig hs27
  obtain ⟨v0, hv0⟩ : ∃ v0, v0 = w.alloc (.cells X 55) := ⟨_, rfl⟩
  have hh0 : v0.heap[w.heap.size]? = some (.cells X 55 (0, 0)) := by rw [hv0]; exact heap_new _ rfl
  have g0 : Below w.heap.size w v0 := by rw [hv0]; go_grown
  have hl0 : w.heap.size < v0.heap.size := (Array.getElem?_eq_some_iff.1 hh0).1
  go_enter Try.func8, Try.ntmps8
  go_wp2_with fail
  rw [← hv0]
  clear hv0
  refine (beyond_any _ _).mono ?_
  rintro e w1 ⟨rfl, rfl⟩
  go_wp2_with (refine wpList_load_row rfl 55 (.tmp 2) rfl w.heap.size rfl 55 _ (0, 0) _ hh0 Try.underlying55 rfl HSX.out ?_)
  refine (HDg.out _).mono ?_
  rintro e w1 ⟨rfl, hb1⟩
  go_wp2_with fail
  refine (HBk.out _).mono ?_
  rintro e w2 ⟨rfl, hb2⟩
  go_wp2_with (refine wpList_store_row rfl 55 (.tmp 6) (.tmp 21) rfl w2.heap.size X rfl rfl 55 (byteCells zeros).toArray ?hg HSX.out ?hold H1X.out ?_)
  case hg => exact heap_new _ rfl
  case hold => rw [← HX.out]; simp [byteCells_length, hD, zeros]
  rw [World.setRow_alloc_new]
  obtain ⟨v3, hv3⟩ : ∃ v3, v3 = w2.alloc (.cells X 55) := ⟨_, rfl⟩
  have g2 : Below w.heap.size w w2 := (g0.trans (hb1.mono g0.size)).trans (hb2.mono (by have := g0.size; have := hb1.size; omega))
  have l2 : w.heap.size < w2.heap.size := by have := hb1.size; have := hb2.size; omega
  have hh2 : w2.heap[w.heap.size]? = some (.cells X 55 (0, 0)) := by
    rw [hb2.block _ (by have := hb1.size; omega), hb1.block _ hl0]; exact hh0
  have hh3 : v3.heap[w.heap.size]? = some (.cells X 55 (0, 0)) := by rw [hv3]; exact (alloc_old _ _ _ l2).trans hh2
  have hh6 : v3.heap[w2.heap.size]? = some (.cells X 55 (0, 0)) := by rw [hv3]; exact heap_new _ rfl
  have g3 : Below w.heap.size w v3 := by rw [hv3]; exact g2.alloc g2.size _
  rw [← hv3]
  clear hv3 hh0 hh2
  have l3 : w2.heap.size < v3.heap.size := (Array.getElem?_eq_some_iff.1 hh6).1
  refine (HRW.out (some ⟨w.heap.size, 0, none⟩) v3 (row_bytes (t := 55) (by rw [HX.out]; exact hh3) (by omega) (by omega))).mono ?_
  rintro e w5 ⟨rfl, hb5⟩
  have k3 : w5.heap[w.heap.size]? = some (.cells X 55 (0, 0)) := (hb5.block _ (by omega)).trans hh3
  have k6 : w5.heap[w2.heap.size]? = some (.cells X 55 (0, 0)) := (hb5.block _ l3).trans hh6
  have g5 : Below w.heap.size w w5 := g3.trans (hb5.mono g3.size)
  have heq := HEq.out w5
  clear hh3 hh6
  go_wp2_with (first
    | (refine wpList_load_asked rfl 55 (.tmp 6) rfl w2.heap.size rfl 55 _ (0, 0) _ k6 Try.underlying55 rfl HSX.out ?_)
    | (refine wpList_load_asked rfl 55 (.tmp 2) rfl w.heap.size rfl 55 _ (0, 0) _ k3 Try.underlying55 rfl HSX.out ?_))
  refine (HTo.out w5).mono ?_
  rintro e w6 ⟨x, er, rfl, hdg, hb6⟩
  obtain ⟨D2, rfl, hD2, hboth⟩ := digAs_form hdg
  have HB := Lib.hid hboth
  clear hdg hboth heq k3 k6
  unfold dig
  have hsY : (Try.prog.info? 55).map (·.size) = some (byteCells D2).toArray.size := dig_size D2 hD2
  have h1Y : (byteCells D2).toArray.all (·.oneCell') = true := dig_one D2
  obtain ⟨Y, hY⟩ : ∃ Y, (byteCells D2).toArray = Y := ⟨_, rfl⟩
  rw [hY] at hsY h1Y ⊢
  have HSY := Lib.hid hsY
  have H1Y := Lib.hid h1Y
  have HY := Lib.hid hY
  clear hsY h1Y hY
  go_wp2_with (refine wpList_store_row rfl 55 (.tmp 8) (.tmp 39) rfl w6.heap.size Y rfl rfl 55 (byteCells zeros).toArray ?hg HSY.out ?hold H1Y.out ?_)
  case hg => exact heap_new _ rfl
  case hold => rw [← HY.out]; simp [byteCells_length, hD2, zeros]
  rw [World.setRow_alloc_new]
  obtain ⟨v7, hv7⟩ : ∃ v7, v7 = w6.alloc (.cells Y 55) := ⟨_, rfl⟩
  have g6 : Below w.heap.size w w6 := g5.trans (hb6.mono g5.size)
  have hh7 : v7.heap[w6.heap.size]? = some (.cells Y 55 (0, 0)) := by rw [hv7]; exact heap_new _ rfl
  have g7 : Below w.heap.size w v7 := by rw [hv7]; exact g6.alloc g6.size _
  rw [← hv7]
  clear hv7
  have l7 : w6.heap.size < v7.heap.size := (Array.getElem?_eq_some_iff.1 hh7).1
  refine (HRf.out v7).mono ?_
  rintro e w8 ⟨v', n1, n2, rfl, hrf, hb8⟩
  have g8 : Below w.heap.size w w8 := g7.trans (hb8.mono g7.size)
  have hh8 : w8.heap[w6.heap.size]? = some (.cells Y 55 (0, 0)) := (hb8.block _ l7).trans hh7
  have l8 : w6.heap.size < w8.heap.size := (Array.getElem?_eq_some_iff.1 hh8).1
  rcases HB.out _ _ _ _ _ hrf with ⟨hne, rfl, rfl⟩ | ⟨rfl, g, L, hg, rfl, hwh, hLs, ⟨hL32, rfl, rfl⟩ | ⟨hL32, rfl, rfl⟩⟩
  · have hd : (n1 != 0) = true := by rw [bne_iff_ne]; exact hne
    have hz : Y = #[Value.int .u8 0, Value.int .u8 0, Value.int .u8 0, Value.int .u8 0, Value.int .u8 0, Value.int .u8 0, Value.int .u8 0, Value.int .u8 0, Value.int .u8 0, Value.int .u8 0, Value.int .u8 0, Value.int .u8 0, Value.int .u8 0, Value.int .u8 0, Value.int .u8 0, Value.int .u8 0, Value.int .u8 0, Value.int .u8 0, Value.int .u8 0, Value.int .u8 0, Value.int .u8 0, Value.int .u8 0, Value.int .u8 0, Value.int .u8 0, Value.int .u8 0, Value.int .u8 0, Value.int .u8 0, Value.int .u8 0, Value.int .u8 0, Value.int .u8 0, Value.int .u8 0, Value.int .u8 0] := by rw [← HY.out]; rfl
    have heq0 : (Op.equalIn 10000 55 (.agg Y) (.agg #[Value.int .u8 0, Value.int .u8 0, Value.int .u8 0, Value.int .u8 0, Value.int .u8 0, Value.int .u8 0, Value.int .u8 0, Value.int .u8 0, Value.int .u8 0, Value.int .u8 0, Value.int .u8 0, Value.int .u8 0, Value.int .u8 0, Value.int .u8 0, Value.int .u8 0, Value.int .u8 0, Value.int .u8 0, Value.int .u8 0, Value.int .u8 0, Value.int .u8 0, Value.int .u8 0, Value.int .u8 0, Value.int .u8 0, Value.int .u8 0, Value.int .u8 0, Value.int .u8 0, Value.int .u8 0, Value.int .u8 0, Value.int .u8 0, Value.int .u8 0, Value.int .u8 0, Value.int .u8 0])).run Try.prog w8 = .ok true w8 := by rw [← hz, ← HY.out]; exact dig_same zeros rfl w8
    clear hrf hne hz
    go_wp2_with (refine wpList_load_asked rfl 55 (.tmp 8) rfl w6.heap.size rfl 55 _ (0, 0) _ hh8 Try.underlying55 rfl HSY.out ?_)
    refine (spot_yes n1 n2 _).mono ?_
    rintro e w9 ⟨rfl, hb9⟩
    go_wp2_with fail
    go_ret
    exact ⟨rfl, g8.trans (hb9.mono g8.size)⟩
  · have hz : Y = #[Value.int .u8 0, Value.int .u8 0, Value.int .u8 0, Value.int .u8 0, Value.int .u8 0, Value.int .u8 0, Value.int .u8 0, Value.int .u8 0, Value.int .u8 0, Value.int .u8 0, Value.int .u8 0, Value.int .u8 0, Value.int .u8 0, Value.int .u8 0, Value.int .u8 0, Value.int .u8 0, Value.int .u8 0, Value.int .u8 0, Value.int .u8 0, Value.int .u8 0, Value.int .u8 0, Value.int .u8 0, Value.int .u8 0, Value.int .u8 0, Value.int .u8 0, Value.int .u8 0, Value.int .u8 0, Value.int .u8 0, Value.int .u8 0, Value.int .u8 0, Value.int .u8 0, Value.int .u8 0] := by rw [← HY.out]; rfl
    have heq0 : (Op.equalIn 10000 55 (.agg Y) (.agg #[Value.int .u8 0, Value.int .u8 0, Value.int .u8 0, Value.int .u8 0, Value.int .u8 0, Value.int .u8 0, Value.int .u8 0, Value.int .u8 0, Value.int .u8 0, Value.int .u8 0, Value.int .u8 0, Value.int .u8 0, Value.int .u8 0, Value.int .u8 0, Value.int .u8 0, Value.int .u8 0, Value.int .u8 0, Value.int .u8 0, Value.int .u8 0, Value.int .u8 0, Value.int .u8 0, Value.int .u8 0, Value.int .u8 0, Value.int .u8 0, Value.int .u8 0, Value.int .u8 0, Value.int .u8 0, Value.int .u8 0, Value.int .u8 0, Value.int .u8 0, Value.int .u8 0, Value.int .u8 0])).run Try.prog w8 = .ok true w8 := by rw [← hz, ← HY.out]; exact dig_same zeros rfl w8
    have hne : (((L.length : Nat) : Int) != 32) = true := by rw [bne_iff_ne]; omega
    clear hrf hz hL32 hwh
    go_wp2_with (refine wpList_load_asked rfl 55 (.tmp 8) rfl w6.heap.size rfl 55 _ (0, 0) _ hh8 Try.underlying55 rfl HSY.out ?_)
    refine (errno_arg _).mono ?_
    rintro e w9 ⟨rfl, rfl⟩
    go_wp2_with fail
    go_ret
    exact ⟨rfl, g8⟩
  · have hgl := whole_lt hwh
    have H1 := same_yes (some ⟨w6.heap.size, 0, none⟩) (some ⟨g, 0, none⟩) 32 32 D2 w8 w8.heap.size w8.heap.size w8.heap.size w8.heap.size (row_bytes (t := 55) (by rw [HY.out]; exact hh8) l8 (by omega)) (whole_bytes hwh hgl (by omega)) (fun h => by cases h) (fun h => by cases h)
    rw [hL32] at H1 ⊢
    have HH1 := Lib.hid H1
    clear H1 hrf hwh hLs
    go_wp2_with fail
    refine HH1.out.mono ?_
    rintro e w9 ⟨rfl, rfl⟩
    go_wp2_with fail
    go_ret
    exact ⟨rfl, g8⟩

theorem digestUnder : Try.prog.underlying 55 = some (.array 32 5) := Try.underlying55

set_option maxRecDepth 100000 in
/-- A digest that came in. -/
theorem open_digest {H : Type} {enc : TypeId × Value → H} {W : World} {base b0 : Nat} {sp : Nat → Bool} {held : Bool} {v : Value} {d : DataW H} {p : List MemPlace}
    (hv : Value.okWide Try.prog W .any b0 55 v) (h : DataW.Trod enc Try.prog W base sp held 55 v d p) : ∃ D : List UInt8, D.length = 32 ∧ v = .agg (byteCells D).toArray := by
  simp only [Value.okWide, digestUnder] at hv
  obtain ⟨cs, rfl, hsz, _⟩ := hv
  have h32 : cs.size = 32 := hsz.trans (by kernel_rfl)
  obtain ⟨fuel, hf⟩ := h
  obtain ⟨xs, m, _, _, hl, hlen, hel⟩ := DataW.trod_array digestUnder hf
  have hc1 : Try.prog.cellsOf 5 = 1 := by kernel_rfl
  have hcell : ∀ i, i < 32 → ∃ n : Int, cs.toList[i]? = some (.int .u8 n) ∧ (Lit.int .u8 n).wf = true := by
    intro i hi
    have h1 := hel i hi
    rw [hc1, Nat.mul_one, List.getElem?_eq_getElem (by omega)] at h1
    obtain ⟨n, hn, _, hwf⟩ := DataW.trod_int Try.underlying5 h1
    refine ⟨n, ?_, hwf⟩
    have hi' : i < cs.toList.length := by rw [Array.length_toList]; omega
    have hn' : (cs.toList.drop i).take 1 = [.int .u8 n] := hn
    rw [List.drop_eq_getElem_cons hi', List.take_succ_cons, List.take_zero, List.cons.injEq] at hn'
    rw [List.getElem?_eq_getElem hi', hn'.1]
  refine ⟨cs.toList.map fun v => UInt8.ofNat (RowKit.intOf v).toNat, by rw [List.length_map, Array.length_toList]; exact h32, ?_⟩
  refine congrArg Value.agg (Array.ext' (List.ext_getElem? fun i => ?_))
  by_cases hi : i < 32
  · obtain ⟨n, hn, hwf⟩ := hcell i hi
    simp only [byteCells, List.map_map, List.getElem?_map, hn, Option.map_some, Function.comp, RowKit.intOf]
    simp [Lit.wf, IntKind.min, IntKind.max, IntKind.signed, IntKind.bits] at hwf
    congr 2
    simp only [UInt8.toNat_ofNat']
    omega
  · rw [List.getElem?_eq_none (by rw [Array.length_toList]; omega), List.getElem?_eq_none (by simp [byteCells]; omega)]

set_option maxRecDepth 100000 in
theorem digests_lifted (os : Os) (started : os.Started) (H : Type) (enc : TypeId × Value → H) :
    ReturnsInHanded {} Try.checked os 8 .any (Rows.baseDigestsSpec.pre6 enc Try.prog Try.f8 Rows.baseDigestsRow.domain false) (Rows.baseDigestsSpec.post enc Try.prog Try.f8 false true false false) := by
  refine returnsInHanded_of_change_sized (C := Try.checked) own started (by kernel_rfl) Try.func8
    (ChangeSpec.witness6 (enc := enc) (C := Try.checked) false ⟨#[], #[.agg (Array.replicate 32 (.int .u8 0)), .string ⟨#[]⟩], []⟩ 8 (by kernel_rfl) (by kernel_rfl) (by kernel_rfl) (by kernel_rfl)) ?_
  intro W base args ds gs before hval0 hW _ hsz0 _
  have hsz : (DataW.weightsEach Try.prog (Try.f8.params.toList ++ Rows.baseDigestsSpec.plain.varTypes Try.prog) (ds ++ gs)).all (· ≤ reachBytes) = true := hsz0
  clear hsz0
  have hval : ∀ (j : Nat) t v, Try.f8.params[j]? = some t → args[j]? = some v → Value.okWide Try.prog W .any base t v := hval0
  have hW' := hW
  obtain ⟨p, q, hA0, hV, rfl, hfz, hnd⟩ := hW
  have hA : DataW.TrodAll enc Try.prog W 0 (fun _ => true) true Try.f8.params.toList args.toList ds p := hA0
  rw [Try.params8] at hA hval hsz
  obtain ⟨v0, vs0, d0, ds0, p0, q0, hargs, rfl, rfl, h0, r0⟩ := trodAll_cons hA
  obtain ⟨v1, vs1, d1, ds1, p1, q1, rfl, rfl, rfl, h1, r1⟩ := trodAll_cons r0
  obtain ⟨rfl, rfl, rfl⟩ := trodAll_nil r1
  obtain rfl : args = #[v0, v1] := by cases args; simp_all
  obtain ⟨rfl, rfl⟩ := trodVars_none hV
  have h0k := h0
  obtain ⟨D, hD, rfl⟩ := open_digest (hval 0 55 v0 rfl rfl) h0
  obtain ⟨b, rfl, rfl, rfl, mb⟩ := open_string Try.underlying9 (hval 1 9 v1 rfl rfl) h1
  have zb := sized_string hsz (j := 1) rfl rfl
  simp only [Array.length_toList, reachBytes] at zb
  clear hA0 hval0
  simp only [List.append_nil] at hW'
  have hlt : ∀ x ∈ p0, x.block < W.heap.size := fun x hx => by simpa using hW'.lt x hx
  refine (digests_walk D hD b zb W).mono fun e W' ⟨he, hg⟩ => ?_
  subst he
  refine ⟨_, rfl, _, _, _, [], p0, [], hW', ?_, ?_, ?_, hg.frame _, fun h => by cases h⟩
  · exact trodAll_cons_mk (shut_bool Try.underlying4 _) trodAll_mk0
  · have t0 := Below.trod (by kernel_rfl) (by kernel_rfl) (of_decide_eq_true (by kernel_rfl)) h0k hg hlt
    have ha := trodAll_cons_mk t0 (trodAll_cons_mk (shut_string Try.underlying9 mb) trodAll_mk0)
    simp only [List.append_nil] at ha
    exact ha
  · rfl

/-- BaseDigests. -/
theorem baseDigests_proved : Rows.BaseDigestsSaid :=
  OpenClaim.holds_of_wide 8 Try.f8 rfl rfl rfl rfl rfl rfl rfl ⟨rfl, rfl, rfl, rfl, rfl⟩ rfl rfl rfl rfl rfl (by kernel_rfl) Try.func8 (by kernel_rfl)
    (of_decide_eq_true (by kernel_rfl)) (by unfold Func.isWrapper; first | (rw [if_pos (by decide +kernel)]; kernel_rfl) | (rw [if_neg (by decide +kernel)]; exact ⟨rfl, rfl⟩))
    (fun os started H enc _ => digests_lifted os started H enc)
#print axioms baseDigests_proved
end Go.Proofs.Ytaaiikjjfleooaa
