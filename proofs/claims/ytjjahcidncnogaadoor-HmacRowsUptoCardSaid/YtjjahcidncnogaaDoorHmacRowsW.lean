/- HmacRows, walked: the program's Row, the reference's length and Row, and the law: every parts as a row; new memory. -/
import Derived.Test.YtjjahcidncnogaaDoorRows7
import Derived.Test.YtjjahcidncnogaaDoorShelf
import Derived.Lib.ItoaLen
import Derived.Test.YtjjahcidncnogaaDoorHeld2
import Derived.Lib.AppendStr
import Derived.Test.YtjjahcidncnogaaDoorSpoil
import Derived.Test.YtjjahcidncnogaaDoorOuter
import Derived.Test.YtjjahcidncnogaaDoorMacWake7
namespace Go.Proofs.YtjjahcidncnogaaDoor
open Go.ChangeShapes Go.WideShapes Go.ChangeAt Go.RowKit Go.Lib

/-- A part as it stands in a row, and the row of parts. -/
def itemL (x : List UInt8) : List UInt8 := decDigits x.length ++ [32] ++ x ++ [32]
def rowL (L : Nat → List UInt8) : Nat → List UInt8
  | 0 => []
  | k + 1 => rowL L k ++ itemL (L k)
theorem rowL_upto (L : Nat → List UInt8) {i k : Nat} (h : i ≤ k) : (rowL L i).length ≤ (rowL L k).length := by
  induction k with
  | zero => obtain rfl : i = 0 := by omega
            exact Nat.le_refl _
  | succ k ih =>
    by_cases e : i = k + 1
    · subst e; exact Nat.le_refl _
    · have := ih (by omega)
      rw [rowL, List.length_append]
      omega
theorem itemL_length (x : List UInt8) : (itemL x).length = (decDigits x.length).length + 1 + x.length + 1 := by
  unfold itemL
  simp only [List.length_append, List.length_singleton]

set_option maxRecDepth 100000 in
set_option maxHeartbeats 4000000 in
theorem row_any (p : Option Addr) (N cap : Nat) (hN : N ≤ 1048576) (P : Nat → Option Addr) (C : Nat → Nat) (L : Nat → List UInt8) (w : World) (hTb : TabBelow Tryd.prog w.heap.size w "internal/strconv.uint64pow10" .u64 pow10Tab) (hP : Parts w.heap.size p N P C L w) (hnil : ∀ i, i < N → P i = none → L i = [] ∧ C i = 0) (hfit : (rowL L N).length ≤ 140737488351000) :
    Calls Tryd.prog 51 #[.slice p N cap] w fun e w' => ∃ q c, e = .returned (.slice q (rowL L N).length c) ∧ w'.ownsRow w.heap.size 5 1 (.slice q (rowL L N).length c) (rowL L N).length (Go.Lib.byteCells (rowL L N)) ∧ Below w.heap.size w w' := by
  have HTb := Lib.hid hTb
  have HP := Lib.hid hP
  have HNil := Lib.hid hnil
  have HFit := Lib.hid hfit
  have HX : Hid (∃ (i : Nat) (q : Option Addr) (c m : Nat), Value.slice none 0 0 = .slice q m c ∧ Value.int .i64 0 = .int .i64 (i : Int) ∧ i ≤ N ∧ m = (rowL L i).length ∧ Hid (w.ownsRow w.heap.size 5 1 (.slice q m c) m (Go.Lib.byteCells (rowL L i))) ∧ Hid (Below w.heap.size w w)) := Lib.hid
    ⟨0, none, 0, 0, rfl, rfl, Nat.zero_le _, rfl, Lib.hid (World.ownsRow_nil _ _ _ _), Lib.hid (Below.refl _ _)⟩
  clear hP hnil hfit
  go_enter Tryd.func51, Tryd.ntmps51
  go_wp2_with fail
  go_loopw [3, 8] (fun s v wr => ∃ (i : Nat) (q : Option Addr) (c m : Nat), s = .slice q m c ∧ v = .int .i64 (i : Int) ∧ i ≤ N ∧ m = (rowL L i).length ∧ Hid (wr.ownsRow w.heap.size 5 1 (.slice q m c) m (Go.Lib.byteCells (rowL L i))) ∧ Hid (Below w.heap.size w wr)) (fun _ v _ => N - (RowKit.intOf v).toNat)
  case atStart => exact HX.out
  case round =>
    clear HX
    obtain ⟨i, q, c, m, rfl, rfl, hi, hm, ho, hb⟩ := hrel
    by_cases hlt : i < N
    · obtain ⟨pb, off, hp, hpb, hc⟩ := HP.out.1 (by omega)
      subst hp
      have c1 := (hb.out.cell (p := ⟨pb, off + i, none⟩) hpb).trans (hc i hlt)
      obtain ⟨hby, hlc, hlm⟩ := HP.out.2 i hlt
      have HBw : Hid (Bytes w.heap.size w.heap.size (P i) (L i) w) := Lib.hid hby
      have HNi : Hid (P i = none → (L i).length = 0 ∧ C i = 0) := Lib.hid (fun e => by have h := HNil.out i hlt e; rw [h.1]; exact ⟨rfl, h.2⟩)
      have HLe := Lib.hid (rowL_upto L (i := i + 1) (k := N) hlt)
      obtain ⟨R0, hR0⟩ : ∃ x, rowL L i = x := ⟨_, rfl⟩
      obtain ⟨Li, hLi⟩ : ∃ x, L i = x := ⟨_, rfl⟩
      obtain ⟨n, hnn⟩ : ∃ n, Li.length = n := ⟨_, rfl⟩
      obtain ⟨D, hD⟩ : ∃ D, decDigits n = D := ⟨_, rfl⟩
      have HR1 : Hid (rowL L (i + 1) = R0 ++ D ++ [32] ++ Li ++ [32]) := Lib.hid (by rw [rowL, hR0, hLi, itemL, hnn, hD]; simp only [List.append_assoc])
      rw [hR0] at hm ho
      rw [hLi] at HBw HNi hlm c1
      rw [hnn] at HNi hlm c1
      have HNN := Lib.hid hnn
      have HDd := Lib.hid hD
      have HLm := Lib.hid hlm
      have HRl : Hid (m + D.length + 1 + n + 1 ≤ 140737488351000) := Lib.hid (by
        have h1 := HLe.out
        have h2 := HFit.out
        rw [HR1.out] at h1
        simp only [List.length_append, List.length_singleton] at h1
        omega)
      have hdi : decide ((i : Int) < (N : Int)) = true := decide_eq_true (by omega)
      have hti : (i : Int) < (N : Int) := by omega
      obtain ⟨Pi, hPi⟩ : ∃ x, P i = x := ⟨_, rfl⟩
      obtain ⟨Ci, hCi⟩ : ∃ x, C i = x := ⟨_, rfl⟩
      rw [hPi] at c1 HBw HNi
      rw [hCi] at c1 HNi
      have HO0 := ho
      have HG0 := hb
      clear hc hby hlc hlm hpb hnn hPi hCi hm hLi hR0 hD ho hb
      go_wp2_with fail
      have hrun := Tryd.strconv_AppendInt_10 w.heap.size m (n : Int) (by omega) (by have := HLm.out; omega) (.slice q m c) (Go.Lib.byteCells R0) wr HO0.out HG0.out.size (by have := HRl.out; omega) (HTb.out.on HG0.out)
      rw [itoa_nonneg, HDd.out] at hrun
      refine hrun.mono ?_
      rintro e w1 ⟨v1, rfl, ho1, hb1, -⟩
      obtain ⟨q1, k1, rfl⟩ := owns_slice ho1
      have HG1 : Hid (Below w.heap.size w w1) := Lib.hid (HG0.out.trans hb1)
      obtain ⟨m1, hm1⟩ : ∃ x, m + D.length = x := ⟨_, rfl⟩
      rw [hm1] at ho1 ⊢
      have HM1 := Lib.hid hm1
      obtain ⟨R1, hR1⟩ : ∃ x, R0 ++ D = x := ⟨_, rfl⟩
      have HRq := Lib.hid hR1
      have HO1 : Hid (w1.ownsRow w.heap.size 5 1 (.slice q1 m1 k1) m1 (Go.Lib.byteCells R1)) := Lib.hid (by rw [← hR1]; unfold Go.Lib.byteCells at ho1 ⊢; rw [List.map_append]; exact ho1)
      clear hrun ho1 hb1 hm1 hR1
      -- the blank
      obtain ⟨v2, hv2⟩ : ∃ v, v = w1.alloc (.cells (Go.Lib.byteCells [32]).toArray 5) := ⟨_, rfl⟩
      have HV2 := Lib.hid hv2.symm
      have HG2 : Hid (Below w.heap.size w v2) := Lib.hid (by rw [hv2]; exact HG1.out.alloc HG1.out.size _)
      have HO2 : Hid (v2.ownsRow w.heap.size 5 1 (.slice q1 m1 k1) m1 (Go.Lib.byteCells R1)) := Lib.hid (by rw [hv2]; exact HO1.out.alloc _)
      have HB2 : Hid (Bytes v2.heap.size v2.heap.size (some ⟨w1.heap.size, 0, none⟩) [32] v2) := Lib.hid (by rw [hv2]; exact lit_bytes w1 [32])
      obtain ⟨m2, hm2⟩ : ∃ x, m1 + 1 = x := ⟨_, rfl⟩
      have HM2 := Lib.hid hm2
      obtain ⟨R2, hR2⟩ : ∃ x, R1 ++ [32] = x := ⟨_, rfl⟩
      have HR2 := Lib.hid hR2
      clear hv2 hm2
      go_wp2_with (first
        | (refine wpList_append_piece rfl (.tmp 16) (.tmp 17) rfl w.heap.size _ m1 R1 rfl HO2.out (some ⟨w1.heap.size, 0, none⟩) 1 1 m2 [32] rfl rfl (fun h => by cases h) _ _ HB2.out HM2.out (by have := HM2.out; have := HM1.out; have := HRl.out; omega) HG2.out.size ?_)
        | (refine wpList_world HV2.out ?_))
      intro q3 k3 w3 ho3 hg3
      have HG3 : Hid (Below w.heap.size w w3) := Lib.hid (HG2.out.grown hg3 HG2.out.size (fun k hk => (HO2.out.lt k hk).1))
      have HO3 : Hid (w3.ownsRow w.heap.size 5 1 (.slice q3 m2 k3) m2 (Go.Lib.byteCells R2)) := Lib.hid ho3
      have HBy3 : Hid (Bytes w3.heap.size w3.heap.size Pi Li w3) := Lib.hid ((HBw.out.keep HG3.out).at HG3.out.size HG3.out.size)
      obtain ⟨m3, hm3⟩ : ∃ x, m2 + n = x := ⟨_, rfl⟩
      have HM3 := Lib.hid hm3
      obtain ⟨R3, hR3⟩ : ∃ x, R2 ++ Li = x := ⟨_, rfl⟩
      have HR3 := Lib.hid hR3
      clear ho3 hg3 hm3 hR2
      go_wp2_with (first
        | (refine wpList_append_piece rfl (.tmp 19) (.tmp 20) rfl w.heap.size _ m2 R2 rfl HO3.out Pi n Ci m3 Li rfl HNN.out HNi.out _ _ HBy3.out HM3.out (by have := HM3.out; have := HM2.out; have := HM1.out; have := HRl.out; omega) HG3.out.size ?_))
      intro q4 k4 w4 ho4 hg4
      have HG4 : Hid (Below w.heap.size w w4) := Lib.hid (HG3.out.grown hg4 HG3.out.size (fun k hk => (HO3.out.lt k hk).1))
      obtain ⟨v5, hv5⟩ : ∃ v, v = w4.alloc (.cells (Go.Lib.byteCells [32]).toArray 5) := ⟨_, rfl⟩
      have HV5 := Lib.hid hv5.symm
      have HG5 : Hid (Below w.heap.size w v5) := Lib.hid (by rw [hv5]; exact HG4.out.alloc HG4.out.size _)
      have HO5 : Hid (v5.ownsRow w.heap.size 5 1 (.slice q4 m3 k4) m3 (Go.Lib.byteCells R3)) := Lib.hid (by rw [hv5]; exact ho4.alloc _)
      have HB5 : Hid (Bytes v5.heap.size v5.heap.size (some ⟨w4.heap.size, 0, none⟩) [32] v5) := Lib.hid (by rw [hv5]; exact lit_bytes w4 [32])
      obtain ⟨m5, hm5⟩ : ∃ x, m3 + 1 = x := ⟨_, rfl⟩
      have HM5 := Lib.hid hm5
      have HR5 : Hid (rowL L (i + 1) = R3 ++ [32]) := Lib.hid (by rw [HR1.out, ← HR3.out, ← HR2.out, ← HRq.out])
      clear ho4 hg4 hv5 hm5 hR3
      go_wp2_with (first
        | (refine wpList_append_piece rfl (.tmp 22) (.tmp 23) rfl w.heap.size _ m3 R3 rfl HO5.out (some ⟨w4.heap.size, 0, none⟩) 1 1 m5 [32] rfl rfl (fun h => by cases h) _ _ HB5.out HM5.out (by have := HM5.out; have := HM3.out; have := HM2.out; have := HM1.out; have := HRl.out; omega) HG5.out.size ?_)
        | (refine wpList_world HV5.out ?_))
      intro q6 k6 w6 ho6 hg6
      have HG6 : Hid (Below w.heap.size w w6) := Lib.hid (HG5.out.grown hg6 HG5.out.size (fun k hk => (HO5.out.lt k hk).1))
      have HO6 : Hid (w6.ownsRow w.heap.size 5 1 (.slice q6 m5 k6) m5 (Go.Lib.byteCells (rowL L (i + 1)))) := Lib.hid (by rw [HR5.out]; exact ho6)
      have HM6 : Hid (m5 = (rowL L (i + 1)).length) := Lib.hid (by have h := HO6.out.1; rw [bc_len] at h; omega)
      clear ho6 hg6 c1
      go_wp2_with fail
      go_roundw
      case rel => exact ⟨i + 1, q6, k6, m5, rfl, by go_num, hlt, HM6.out, HO6, HG6⟩
      case measure => simp [RowKit.intOf]; omega
    · obtain rfl : N = i := by omega
      have hdi : decide ((N : Int) < (N : Int)) = false := decide_eq_false (by omega)
      have HMM := Lib.hid hm
      clear hlt hi hm
      go_wp2_with fail
      go_ret
      exact ⟨q, c, by rw [← HMM.out]; rfl, by rw [← HMM.out]; exact ho.out, hb.out⟩
end Go.Proofs.YtjjahcidncnogaaDoor
namespace Go.Proofs.YtjjahcidncnogaaDoor
open Go.ChangeShapes Go.WideShapes Go.ChangeAt Go.RowKit Go.Lib

theorem byte_text {u : World} {g : Nat} {x : UInt8} (h : u.heap[g]? = some (.cells #[.int .u8 (x.toNat : Int)] 5 (0, 0))) : (convert 28 9 (.slice (some ⟨g, 0, none⟩) 1 1)).run Tryd.prog u = .ok (.string ⟨[x].toArray⟩) u :=
  bytes_text 1 (l := [x]) (b := u.heap.size) (K := u.heap.size) (row_bytes (L := [x]) h (Array.getElem?_eq_some_iff.1 h).1 (by have := (Array.getElem?_eq_some_iff.1 h).1; omega)) (fun e => by cases e)
theorem str_join (a b : List UInt8) : (⟨(a ++ b).toArray⟩ : ByteArray) = (⟨a.toArray⟩ : ByteArray) ++ (⟨b.toArray⟩ : ByteArray) := by
  apply ByteArray.ext
  simp
theorem dec_small {n : Nat} (h : n < 10) : decDigits n = [UInt8.ofNat (48 + n)] := decDigits_one h
theorem dec_more {n : Nat} (h : ¬ n < 10) : decDigits n = decDigits (n / 10) ++ [UInt8.ofNat (48 + n % 10)] := by
  rw [decDigits, dif_neg h]

set_option maxRecDepth 100000 in
set_option maxHeartbeats 1000000 in
theorem refLength_any (n : Nat) : n ≤ 140737488351232 → ∀ w : World, Calls Tryd.prog 85 #[.int .i64 (n : Int)] w fun e w' => e = .returned (.string ⟨(decDigits n).toArray⟩) ∧ Below w.heap.size w w' := by
  induction n using Nat.strongRecOn with
  | ind n ih =>
    intro hn w
    by_cases hs : n < 10
    · obtain ⟨x, hx⟩ : ∃ x, UInt8.ofNat (48 + n) = x := ⟨_, rfl⟩
      have hxw : IntKind.u8.wrap (48 + (n : Int)) = (x.toNat : Int) := by rw [IntKind.wrap_u8, ← hx, UInt8.toNat_ofNat']; omega
      have hd : decide ((n : Int) < 10) = true := decide_eq_true (by omega)
      have hti : (n : Int) < 10 := by omega
      have HD : Hid (decDigits n = [x]) := Lib.hid (by rw [dec_small hs, hx])
      obtain ⟨y, hy⟩ : ∃ v, v = w.alloc (.cells #[.int .u8 (x.toNat : Int)] 5) := ⟨_, rfl⟩
      have HY := Lib.hid hy.symm
      have htx := byte_text (u := y) (g := w.heap.size) (x := x) (by rw [hy]; exact heap_last _ _)
      have HF : Hid (Below w.heap.size w y) := Lib.hid (by rw [hy]; exact (Below.refl _ w).alloc (Nat.le_refl _) _)
      obtain ⟨st, hst⟩ : ∃ s : ByteArray, (⟨[x].toArray⟩ : ByteArray) = s := ⟨_, rfl⟩
      have HSt := Lib.hid hst
      rw [hst] at htx
      clear ih hx hy hst
      go_enter Tryd.func85, Tryd.ntmps85
      go_wp2_with (refine wpList_world HY.out ?_)
      go_ret
      exact ⟨by rw [HD.out, HSt.out]; rfl, HF.out⟩
    · obtain ⟨x, hx⟩ : ∃ x, UInt8.ofNat (48 + n % 10) = x := ⟨_, rfl⟩
      obtain ⟨k, hk⟩ : ∃ k, n / 10 = k := ⟨_, rfl⟩
      obtain ⟨r, hr⟩ : ∃ r, n % 10 = r := ⟨_, rfl⟩
      have hxw : IntKind.u8.wrap (48 + (r : Int)) = (x.toNat : Int) := by rw [IntKind.wrap_u8, ← hx, UInt8.toNat_ofNat', hr]; omega
      have hrw : IntKind.i64.wrap (48 + (r : Int)) = 48 + (r : Int) := by rw [IntKind.wrap_i64]; omega
      have hd : decide ((n : Int) < 10) = false := decide_eq_false (by omega)
      have hti : ¬ (n : Int) < 10 := by omega
      have hq1 : (n : Int) / 10 = (k : Int) := by omega
      have hq2 : (n : Int) % 10 = (r : Int) := by omega
      have hq3 : (n : Int).tdiv 10 = (k : Int) := by rw [Int.tdiv_eq_ediv_of_nonneg (by omega), hq1]
      have hq4 : (n : Int).tmod 10 = (r : Int) := by rw [Int.tmod_eq_emod_of_nonneg (by omega), hq2]
      have hkw : IntKind.i64.wrap (k : Int) = (k : Int) := by rw [IntKind.wrap_i64]; omega
      have hrw2 : IntKind.i64.wrap (r : Int) = (r : Int) := by rw [IntKind.wrap_i64]; omega
      obtain ⟨D0, hD0⟩ : ∃ x, decDigits k = x := ⟨_, rfl⟩
      have HD : Hid (decDigits n = D0 ++ [x]) := Lib.hid (by rw [dec_more hs, hk, hx, hD0])
      have hih := fun w => ih k (by omega) (by omega) w
      rw [hD0] at hih
      obtain ⟨s0, hs0⟩ : ∃ s : ByteArray, (⟨D0.toArray⟩ : ByteArray) = s := ⟨_, rfl⟩
      obtain ⟨s1, hs1⟩ : ∃ s : ByteArray, (⟨[x].toArray⟩ : ByteArray) = s := ⟨_, rfl⟩
      have HX0 := Lib.hid hs0
      have HX1 := Lib.hid hs1
      have hcat : ¬ 9223372036854775807 < s0.size + s1.size := by
        have h1 : s0.size = D0.length := by rw [← hs0]; rfl
        have h2 : s1.size = 1 := by rw [← hs1]; rfl
        have h3 := itoa_length_le (k : Int) (by omega) (by omega)
        rw [itoa_nonneg, hD0] at h3
        omega
      rw [hs0] at hih
      have HIH := Lib.hid hih
      obtain ⟨S, hS⟩ : ∃ S : World → Prop, S = fun u => Below w.heap.size w u := ⟨_, rfl⟩
      have HSw : Hid (∀ u, S u → Below w.heap.size w u) := Lib.hid (by rw [hS]; exact fun u h => h)
      have HSb : Hid (∀ u u', S u → Below u.heap.size u u' → S u') := Lib.hid (by rw [hS]; exact fun u u' h hb => h.trans (hb.mono h.size))
      have HS0 : Hid (S w.drew) := Lib.hid (by rw [hS]; exact below_drawn 1 (Below.refl _ _))
      clear ih hih hx hk hr hD0 hs0 hs1 hS hs
      go_enter Tryd.func85, Tryd.ntmps85
      go_wp2_with fail
      refine wp_region_held_drew (S := S) (by kernel_rfl) HS0.out (fun hHeld => ?_)
      obtain ⟨wd, hwd⟩ : ∃ v, v = w.drew := ⟨_, rfl⟩
      rw [← hwd] at hHeld ⊢
      clear hwd
      first | (refine held_take 0 _ rfl (by kernel_rfl) (by kernel_rfl) (by kernel_rfl) (v := ?_) (fun _ _ _ h => h) ?_ rfl hHeld ?_; rotate_left; focus (intro w hS; skip; go_simp; try with_reducible rfl)) | (refine held_skip 0 _ rfl (by kernel_rfl) (by kernel_rfl) (by kernel_rfl) (fun _ _ _ h => h) rfl hHeld ?_)
      show wpAnyH _ _ _ _ _ _ _ { tmps := _, defers := _ } _
      try unfold Act.put
      try dsimp only
      try simp only [List.setIfInBounds_toArray]
      try simp only [List.set_cons_succ]
      try simp only [List.set_cons_zero]
      first | (refine held_take 1 _ rfl (by kernel_rfl) (by kernel_rfl) (by kernel_rfl) (v := ?_) (fun _ _ _ h => h) ?_ rfl hHeld ?_; rotate_left; focus (intro w hS; skip; go_simp; try with_reducible rfl)) | (refine held_skip 1 _ rfl (by kernel_rfl) (by kernel_rfl) (by kernel_rfl) (fun _ _ _ h => h) rfl hHeld ?_)
      show wpAnyH _ _ _ _ _ _ _ { tmps := _, defers := _ } _
      try unfold Act.put
      try dsimp only
      try simp only [List.setIfInBounds_toArray]
      try simp only [List.set_cons_succ]
      try simp only [List.set_cons_zero]
      first | (refine held_take 3 _ rfl (by kernel_rfl) (by kernel_rfl) (by kernel_rfl) (v := ?_) (fun _ _ _ h => h) ?_ rfl hHeld ?_; rotate_left; focus (intro w hS; skip; go_simp; try with_reducible rfl)) | (refine held_skip 3 _ rfl (by kernel_rfl) (by kernel_rfl) (by kernel_rfl) (fun _ _ _ h => h) rfl hHeld ?_)
      show wpAnyH _ _ _ _ _ _ _ { tmps := _, defers := _ } _
      try unfold Act.put
      try dsimp only
      try simp only [List.setIfInBounds_toArray]
      try simp only [List.set_cons_succ]
      try simp only [List.set_cons_zero]
      first | (refine held_take 4 _ rfl (by kernel_rfl) (by kernel_rfl) (by kernel_rfl) (v := ?_) (fun _ _ _ h => h) ?_ rfl hHeld ?_; rotate_left; focus (intro w hS; skip; go_simp; try with_reducible rfl)) | (refine held_skip 4 _ rfl (by kernel_rfl) (by kernel_rfl) (by kernel_rfl) (fun _ _ _ h => h) rfl hHeld ?_)
      show wpAnyH _ _ _ _ _ _ _ { tmps := _, defers := _ } _
      try unfold Act.put
      try dsimp only
      try simp only [List.setIfInBounds_toArray]
      try simp only [List.set_cons_succ]
      try simp only [List.set_cons_zero]
      first | (refine held_take 5 _ rfl (by kernel_rfl) (by kernel_rfl) (by kernel_rfl) (v := ?_) (fun _ _ _ h => h) ?_ rfl hHeld ?_; rotate_left; focus (intro w hS; skip; go_simp; try with_reducible rfl)) | (refine held_skip 5 _ rfl (by kernel_rfl) (by kernel_rfl) (by kernel_rfl) (fun _ _ _ h => h) rfl hHeld ?_)
      show wpAnyH _ _ _ _ _ _ _ { tmps := _, defers := _ } _
      try unfold Act.put
      try dsimp only
      try simp only [List.setIfInBounds_toArray]
      try simp only [List.set_cons_succ]
      try simp only [List.set_cons_zero]
      first | (refine held_take 6 _ rfl (by kernel_rfl) (by kernel_rfl) (by kernel_rfl) (v := ?_) (fun _ _ _ h => h) ?_ rfl hHeld ?_; rotate_left; focus (intro w hS; skip; go_simp; try with_reducible rfl)) | (refine held_skip 6 _ rfl (by kernel_rfl) (by kernel_rfl) (by kernel_rfl) (fun _ _ _ h => h) rfl hHeld ?_)
      show wpAnyH _ _ _ _ _ _ _ { tmps := _, defers := _ } _
      try unfold Act.put
      try dsimp only
      try simp only [List.setIfInBounds_toArray]
      try simp only [List.set_cons_succ]
      try simp only [List.set_cons_zero]
      refine held_next2 2 7 _ _ (by kernel_rfl) rfl rfl rfl rfl (fun K hK => ?_) (fun K hK => ?_)
      · go_simp
        refine (HIH.out _).mono ?_
        rintro e wc ⟨rfl, hbc⟩
        skip
        refine hK _ _ (HSb.out _ _ hHeld hbc) (fun hHeld => ?_)
        clear hK K hbc
        show wpAnyH _ _ _ _ _ _ _ { tmps := _, defers := _ } _
        try unfold Act.put
        try dsimp only
        try simp only [List.setIfInBounds_toArray]
        try simp only [List.set_cons_succ]
        try simp only [List.set_cons_zero]
        refine held_next 7 _ (by kernel_rfl) rfl rfl fun K hK => ?_
        go_simp
        obtain ⟨y, hy⟩ : ∃ v, v = World.alloc wc (.cells #[.int .u8 (x.toNat : Int)] 5) := ⟨_, rfl⟩
        obtain ⟨gb, hgb⟩ : ∃ b, wc.heap.size = b := ⟨_, rfl⟩
        have HXG : Hid (y.heap[gb]? = some (.cells #[.int .u8 (x.toNat : Int)] 5 (0, 0))) := Lib.hid (by rw [hy, ← hgb]; exact heap_last _ _)
        have HQ : Below wc.heap.size wc y := by rw [hy]; exact (Below.refl _ _).alloc (Nat.le_refl _) _
        rw [← hy, hgb]
        refine hK _ _ (HSb.out _ _ hHeld HQ) (fun hHeld => ?_)
        clear hK K hy hgb HQ
        show wpAnyH _ _ _ _ _ _ _ { tmps := _, defers := _ } _
        try unfold Act.put
        try dsimp only
        try simp only [List.setIfInBounds_toArray]
        try simp only [List.set_cons_succ]
        try simp only [List.set_cons_zero]
        refine held_next 8 _ (by kernel_rfl) rfl rfl fun K hK => ?_
        have htx := byte_text HXG.out
        rw [HX1.out] at htx
        go_simp
        refine hK _ _ hHeld (fun hHeld => ?_)
        clear hK K htx HXG
        show wpAnyH _ _ _ _ _ _ _ { tmps := _, defers := _ } _
        try unfold Act.put
        try dsimp only
        try simp only [List.setIfInBounds_toArray]
        try simp only [List.set_cons_succ]
        try simp only [List.set_cons_zero]
        refine held_next 9 _ (by kernel_rfl) rfl rfl fun K hK => ?_
        go_simp
        refine hK _ _ hHeld (fun hHeld => ?_)
        clear hK K
        show wpAnyH _ _ _ _ _ _ _ { tmps := _, defers := _ } _
        try unfold Act.put
        try dsimp only
        try simp only [List.setIfInBounds_toArray]
        try simp only [List.set_cons_succ]
        try simp only [List.set_cons_zero]
        first | (refine held_take 10 _ rfl (by kernel_rfl) (by kernel_rfl) (by kernel_rfl) (v := ?_) (fun _ _ _ h => h) ?_ rfl hHeld ?_; rotate_left; focus (intro w hS; skip; go_simp; try with_reducible rfl)) | (refine held_skip 10 _ rfl (by kernel_rfl) (by kernel_rfl) (by kernel_rfl) (fun _ _ _ h => h) rfl hHeld ?_)
        show wpAnyH _ _ _ _ _ _ _ { tmps := _, defers := _ } _
        try unfold Act.put
        try dsimp only
        try simp only [List.setIfInBounds_toArray]
        try simp only [List.set_cons_succ]
        try simp only [List.set_cons_zero]
        refine wpAnyH_done (by kernel_rfl) ?_ _
        have HF := Lib.hid (HSw.out _ hHeld)
        clear hHeld
        go_wp2_with fail
        go_ret
        exact ⟨by rw [HD.out, str_join, HX0.out, HX1.out]; rfl, HF.out⟩
      · go_simp
        obtain ⟨y, hy⟩ : ∃ v, v = World.alloc wd (.cells #[.int .u8 (x.toNat : Int)] 5) := ⟨_, rfl⟩
        obtain ⟨gb, hgb⟩ : ∃ b, wd.heap.size = b := ⟨_, rfl⟩
        have HXG : Hid (y.heap[gb]? = some (.cells #[.int .u8 (x.toNat : Int)] 5 (0, 0))) := Lib.hid (by rw [hy, ← hgb]; exact heap_last _ _)
        have HQ : Below wd.heap.size wd y := by rw [hy]; exact (Below.refl _ _).alloc (Nat.le_refl _) _
        rw [← hy, hgb]
        refine hK _ _ (HSb.out _ _ hHeld HQ) (fun hHeld => ?_)
        clear hK K hy hgb HQ
        show wpAnyH _ _ _ _ _ _ _ { tmps := _, defers := _ } _
        try unfold Act.put
        try dsimp only
        try simp only [List.setIfInBounds_toArray]
        try simp only [List.set_cons_succ]
        try simp only [List.set_cons_zero]
        refine held_next2 2 8 _ _ (by kernel_rfl) rfl rfl rfl rfl (fun K hK => ?_) (fun K hK => ?_)
        · go_simp
          refine (HIH.out _).mono ?_
          rintro e wc ⟨rfl, hbc⟩
          replace HXG := Lib.hid ((hbc.block gb (Array.getElem?_eq_some_iff.1 HXG.out).1).trans HXG.out)
          refine hK _ _ (HSb.out _ _ hHeld hbc) (fun hHeld => ?_)
          clear hK K hbc
          show wpAnyH _ _ _ _ _ _ _ { tmps := _, defers := _ } _
          try unfold Act.put
          try dsimp only
          try simp only [List.setIfInBounds_toArray]
          try simp only [List.set_cons_succ]
          try simp only [List.set_cons_zero]
          refine held_next 8 _ (by kernel_rfl) rfl rfl fun K hK => ?_
          have htx := byte_text HXG.out
          rw [HX1.out] at htx
          go_simp
          refine hK _ _ hHeld (fun hHeld => ?_)
          clear hK K htx HXG
          show wpAnyH _ _ _ _ _ _ _ { tmps := _, defers := _ } _
          try unfold Act.put
          try dsimp only
          try simp only [List.setIfInBounds_toArray]
          try simp only [List.set_cons_succ]
          try simp only [List.set_cons_zero]
          refine held_next 9 _ (by kernel_rfl) rfl rfl fun K hK => ?_
          go_simp
          refine hK _ _ hHeld (fun hHeld => ?_)
          clear hK K
          show wpAnyH _ _ _ _ _ _ _ { tmps := _, defers := _ } _
          try unfold Act.put
          try dsimp only
          try simp only [List.setIfInBounds_toArray]
          try simp only [List.set_cons_succ]
          try simp only [List.set_cons_zero]
          first | (refine held_take 10 _ rfl (by kernel_rfl) (by kernel_rfl) (by kernel_rfl) (v := ?_) (fun _ _ _ h => h) ?_ rfl hHeld ?_; rotate_left; focus (intro w hS; skip; go_simp; try with_reducible rfl)) | (refine held_skip 10 _ rfl (by kernel_rfl) (by kernel_rfl) (by kernel_rfl) (fun _ _ _ h => h) rfl hHeld ?_)
          show wpAnyH _ _ _ _ _ _ _ { tmps := _, defers := _ } _
          try unfold Act.put
          try dsimp only
          try simp only [List.setIfInBounds_toArray]
          try simp only [List.set_cons_succ]
          try simp only [List.set_cons_zero]
          refine wpAnyH_done (by kernel_rfl) ?_ _
          have HF := Lib.hid (HSw.out _ hHeld)
          clear hHeld
          go_wp2_with fail
          go_ret
          exact ⟨by rw [HD.out, str_join, HX0.out, HX1.out]; rfl, HF.out⟩
        · have htx := byte_text HXG.out
          rw [HX1.out] at htx
          go_simp
          refine hK _ _ hHeld (fun hHeld => ?_)
          clear hK K htx HXG
          show wpAnyH _ _ _ _ _ _ _ { tmps := _, defers := _ } _
          try unfold Act.put
          try dsimp only
          try simp only [List.setIfInBounds_toArray]
          try simp only [List.set_cons_succ]
          try simp only [List.set_cons_zero]
          refine held_next 2 _ (by kernel_rfl) rfl rfl fun K hK => ?_
          go_simp
          refine (HIH.out _).mono ?_
          rintro e wc ⟨rfl, hbc⟩
          skip
          refine hK _ _ (HSb.out _ _ hHeld hbc) (fun hHeld => ?_)
          clear hK K hbc
          show wpAnyH _ _ _ _ _ _ _ { tmps := _, defers := _ } _
          try unfold Act.put
          try dsimp only
          try simp only [List.setIfInBounds_toArray]
          try simp only [List.set_cons_succ]
          try simp only [List.set_cons_zero]
          refine held_next 9 _ (by kernel_rfl) rfl rfl fun K hK => ?_
          go_simp
          refine hK _ _ hHeld (fun hHeld => ?_)
          clear hK K
          show wpAnyH _ _ _ _ _ _ _ { tmps := _, defers := _ } _
          try unfold Act.put
          try dsimp only
          try simp only [List.setIfInBounds_toArray]
          try simp only [List.set_cons_succ]
          try simp only [List.set_cons_zero]
          first | (refine held_take 10 _ rfl (by kernel_rfl) (by kernel_rfl) (by kernel_rfl) (v := ?_) (fun _ _ _ h => h) ?_ rfl hHeld ?_; rotate_left; focus (intro w hS; skip; go_simp; try with_reducible rfl)) | (refine held_skip 10 _ rfl (by kernel_rfl) (by kernel_rfl) (by kernel_rfl) (fun _ _ _ h => h) rfl hHeld ?_)
          show wpAnyH _ _ _ _ _ _ _ { tmps := _, defers := _ } _
          try unfold Act.put
          try dsimp only
          try simp only [List.setIfInBounds_toArray]
          try simp only [List.set_cons_succ]
          try simp only [List.set_cons_zero]
          refine wpAnyH_done (by kernel_rfl) ?_ _
          have HF := Lib.hid (HSw.out _ hHeld)
          clear hHeld
          go_wp2_with fail
          go_ret
          exact ⟨by rw [HD.out, str_join, HX0.out, HX1.out]; rfl, HF.out⟩
end Go.Proofs.YtjjahcidncnogaaDoor
namespace Go.Proofs.YtjjahcidncnogaaDoor
open Go.ChangeShapes Go.WideShapes Go.ChangeAt Go.RowKit Go.Lib

set_option maxRecDepth 100000 in
set_option maxHeartbeats 4000000 in
theorem refRow_any (p : Option Addr) (N cap : Nat) (hN : N ≤ 1048576) (P : Nat → Option Addr) (C : Nat → Nat) (L : Nat → List UInt8) (w : World) (hP : Parts w.heap.size p N P C L w) (hnil : ∀ i, i < N → P i = none → L i = [] ∧ C i = 0) (hfit : (rowL L N).length ≤ 140737488351000) :
    Calls Tryd.prog 50 #[.slice p N cap] w fun e w' => ∃ q c, e = .returned (.slice q (rowL L N).length c) ∧ w'.ownsRow w.heap.size 5 1 (.slice q (rowL L N).length c) (rowL L N).length (Go.Lib.byteCells (rowL L N)) ∧ Below w.heap.size w w' := by
  have HP := Lib.hid hP
  have HNil := Lib.hid hnil
  have HFit := Lib.hid hfit
  have HX : Hid (∃ (i : Nat) (q : Option Addr) (c m : Nat), Value.slice none 0 0 = .slice q m c ∧ Value.int .i64 0 = .int .i64 (i : Int) ∧ i ≤ N ∧ m = (rowL L i).length ∧ Hid (w.ownsRow w.heap.size 5 1 (.slice q m c) m (Go.Lib.byteCells (rowL L i))) ∧ Hid (Below w.heap.size w w)) := Lib.hid
    ⟨0, none, 0, 0, rfl, rfl, Nat.zero_le _, rfl, Lib.hid (World.ownsRow_nil _ _ _ _), Lib.hid (Below.refl _ _)⟩
  clear hP hnil hfit
  go_enter Tryd.func50, Tryd.ntmps50
  go_wp2_with fail
  go_loopw [3, 8] (fun s v wr => ∃ (i : Nat) (q : Option Addr) (c m : Nat), s = .slice q m c ∧ v = .int .i64 (i : Int) ∧ i ≤ N ∧ m = (rowL L i).length ∧ Hid (wr.ownsRow w.heap.size 5 1 (.slice q m c) m (Go.Lib.byteCells (rowL L i))) ∧ Hid (Below w.heap.size w wr)) (fun _ v _ => N - (RowKit.intOf v).toNat)
  case atStart => exact HX.out
  case round =>
    clear HX
    obtain ⟨i, q, c, m, rfl, rfl, hi, hm, ho, hb⟩ := hrel
    by_cases hlt : i < N
    · obtain ⟨pb, off, hp, hpb, hc⟩ := HP.out.1 (by omega)
      subst hp
      have c1 := (hb.out.cell (p := ⟨pb, off + i, none⟩) hpb).trans (hc i hlt)
      obtain ⟨hby, hlc, hlm⟩ := HP.out.2 i hlt
      have HBw : Hid (Bytes w.heap.size w.heap.size (P i) (L i) w) := Lib.hid hby
      have HNi : Hid (P i = none → (L i).length = 0 ∧ C i = 0) := Lib.hid (fun e => by have h := HNil.out i hlt e; rw [h.1]; exact ⟨rfl, h.2⟩)
      have HLe := Lib.hid (rowL_upto L (i := i + 1) (k := N) hlt)
      obtain ⟨R0, hR0⟩ : ∃ x, rowL L i = x := ⟨_, rfl⟩
      obtain ⟨Li, hLi⟩ : ∃ x, L i = x := ⟨_, rfl⟩
      obtain ⟨n, hnn⟩ : ∃ n, Li.length = n := ⟨_, rfl⟩
      obtain ⟨D, hD⟩ : ∃ D, decDigits n = D := ⟨_, rfl⟩
      have HR1 : Hid (rowL L (i + 1) = R0 ++ D ++ [32] ++ Li ++ [32]) := Lib.hid (by rw [rowL, hR0, hLi, itemL, hnn, hD]; simp only [List.append_assoc])
      rw [hR0] at hm ho
      rw [hLi] at HBw HNi hlm c1
      rw [hnn] at HNi hlm c1
      have HNN := Lib.hid hnn
      have HDd := Lib.hid hD
      have HLm := Lib.hid hlm
      have HRl : Hid (m + D.length + 1 + n + 1 ≤ 140737488351000) := Lib.hid (by
        have h1 := HLe.out
        have h2 := HFit.out
        rw [HR1.out] at h1
        simp only [List.length_append, List.length_singleton] at h1
        omega)
      have hdi : decide ((i : Int) < (N : Int)) = true := decide_eq_true (by omega)
      have hti : (i : Int) < (N : Int) := by omega
      obtain ⟨Pi, hPi⟩ : ∃ x, P i = x := ⟨_, rfl⟩
      obtain ⟨Ci, hCi⟩ : ∃ x, C i = x := ⟨_, rfl⟩
      rw [hPi] at c1 HBw HNi
      rw [hCi] at c1 HNi
      have HO0 := ho
      have HG0 := hb
      clear hc hby hlc hlm hpb hnn hPi hCi hm hLi hR0 hD ho hb
      go_wp2_with fail
      have hrun := refLength_any n (by have := HLm.out; omega) wr
      rw [HDd.out] at hrun
      refine hrun.mono ?_
      rintro e w0 ⟨rfl, hb0⟩
      have HGa : Hid (Below w.heap.size w w0) := Lib.hid (HG0.out.trans (hb0.mono HG0.out.size))
      have HOa : Hid (w0.ownsRow w.heap.size 5 1 (.slice q m c) m (Go.Lib.byteCells R0)) := Lib.hid (owns_keeps HO0.out (fun j _ hj => hb0.block j hj))
      obtain ⟨s, hs⟩ : ∃ s : ByteArray, (⟨D.toArray⟩ : ByteArray) = s := ⟨_, rfl⟩
      have HSs : Hid (s.size = D.length ∧ strCells s = Go.Lib.byteCells D) := Lib.hid (by rw [← hs]; exact ⟨rfl, rfl⟩)
      obtain ⟨i0, hi0, hz0, hz1, hz2⟩ := info_parts infoByte
      have HI0 := Lib.hid hi0
      have HZ0 := Lib.hid hz0
      have HZ1 := Lib.hid hz1
      have HZ2 := Lib.hid hz2
      rw [hs]
      clear hrun hb0 hs hi0 hz0 hz1 hz2
      go_wp2_with (first
        | (refine wpList_append_own_string w0 rfl (.tmp 12) (.tmp 15) _ _ rfl w.heap.size 5 i0 Tryd.underlying28 Tryd.underlying9 HI0.out HZ0.out HZ1.out HZ2.out (.slice q m c) m (Go.Lib.byteCells R0) rfl HOa.out s rfl (by rw [HSs.out.1]; unfold maxLen; have := HRl.out; omega) (by rw [HSs.out.1]; have := HRl.out; omega) HGa.out.size ?_))
      intro v1 w1 ho1 hg1 _
      obtain ⟨q1, k1, rfl⟩ := owns_slice ho1
      have HG1 : Hid (Below w.heap.size w w1) := Lib.hid (HGa.out.grown hg1 HGa.out.size (fun k hk => (HOa.out.lt k hk).1))
      obtain ⟨m1, hm1⟩ : ∃ x, m + D.length = x := ⟨_, rfl⟩
      rw [HSs.out.1, hm1] at ho1
      rw [HSs.out.2] at ho1
      rw [HSs.out.1, hm1]
      have HM1 := Lib.hid hm1
      obtain ⟨R1, hR1⟩ : ∃ x, R0 ++ D = x := ⟨_, rfl⟩
      have HRq := Lib.hid hR1
      have HO1 : Hid (w1.ownsRow w.heap.size 5 1 (.slice q1 m1 k1) m1 (Go.Lib.byteCells R1)) := Lib.hid (by rw [← hR1]; unfold Go.Lib.byteCells at ho1 ⊢; rw [List.map_append]; exact ho1)
      clear ho1 hg1 hm1 hR1
      -- the blank
      obtain ⟨v2, hv2⟩ : ∃ v, v = w1.alloc (.cells (Go.Lib.byteCells [32]).toArray 5) := ⟨_, rfl⟩
      have HV2 := Lib.hid hv2.symm
      have HG2 : Hid (Below w.heap.size w v2) := Lib.hid (by rw [hv2]; exact HG1.out.alloc HG1.out.size _)
      have HO2 : Hid (v2.ownsRow w.heap.size 5 1 (.slice q1 m1 k1) m1 (Go.Lib.byteCells R1)) := Lib.hid (by rw [hv2]; exact HO1.out.alloc _)
      have HB2 : Hid (Bytes v2.heap.size v2.heap.size (some ⟨w1.heap.size, 0, none⟩) [32] v2) := Lib.hid (by rw [hv2]; exact lit_bytes w1 [32])
      obtain ⟨m2, hm2⟩ : ∃ x, m1 + 1 = x := ⟨_, rfl⟩
      have HM2 := Lib.hid hm2
      obtain ⟨R2, hR2⟩ : ∃ x, R1 ++ [32] = x := ⟨_, rfl⟩
      have HR2 := Lib.hid hR2
      clear hv2 hm2
      go_wp2_with (first
        | (refine wpList_append_piece rfl (.tmp 17) (.tmp 18) rfl w.heap.size _ m1 R1 rfl HO2.out (some ⟨w1.heap.size, 0, none⟩) 1 1 m2 [32] rfl rfl (fun h => by cases h) _ _ HB2.out HM2.out (by have := HM2.out; have := HM1.out; have := HRl.out; omega) HG2.out.size ?_)
        | (refine wpList_world HV2.out ?_))
      intro q3 k3 w3 ho3 hg3
      have HG3 : Hid (Below w.heap.size w w3) := Lib.hid (HG2.out.grown hg3 HG2.out.size (fun k hk => (HO2.out.lt k hk).1))
      have HO3 : Hid (w3.ownsRow w.heap.size 5 1 (.slice q3 m2 k3) m2 (Go.Lib.byteCells R2)) := Lib.hid ho3
      have HBy3 : Hid (Bytes w3.heap.size w3.heap.size Pi Li w3) := Lib.hid ((HBw.out.keep HG3.out).at HG3.out.size HG3.out.size)
      obtain ⟨m3, hm3⟩ : ∃ x, m2 + n = x := ⟨_, rfl⟩
      have HM3 := Lib.hid hm3
      obtain ⟨R3, hR3⟩ : ∃ x, R2 ++ Li = x := ⟨_, rfl⟩
      have HR3 := Lib.hid hR3
      clear ho3 hg3 hm3 hR2
      go_wp2_with (first
        | (refine wpList_append_piece rfl (.tmp 20) (.tmp 21) rfl w.heap.size _ m2 R2 rfl HO3.out Pi n Ci m3 Li rfl HNN.out HNi.out _ _ HBy3.out HM3.out (by have := HM3.out; have := HM2.out; have := HM1.out; have := HRl.out; omega) HG3.out.size ?_))
      intro q4 k4 w4 ho4 hg4
      have HG4 : Hid (Below w.heap.size w w4) := Lib.hid (HG3.out.grown hg4 HG3.out.size (fun k hk => (HO3.out.lt k hk).1))
      obtain ⟨v5, hv5⟩ : ∃ v, v = w4.alloc (.cells (Go.Lib.byteCells [32]).toArray 5) := ⟨_, rfl⟩
      have HV5 := Lib.hid hv5.symm
      have HG5 : Hid (Below w.heap.size w v5) := Lib.hid (by rw [hv5]; exact HG4.out.alloc HG4.out.size _)
      have HO5 : Hid (v5.ownsRow w.heap.size 5 1 (.slice q4 m3 k4) m3 (Go.Lib.byteCells R3)) := Lib.hid (by rw [hv5]; exact ho4.alloc _)
      have HB5 : Hid (Bytes v5.heap.size v5.heap.size (some ⟨w4.heap.size, 0, none⟩) [32] v5) := Lib.hid (by rw [hv5]; exact lit_bytes w4 [32])
      obtain ⟨m5, hm5⟩ : ∃ x, m3 + 1 = x := ⟨_, rfl⟩
      have HM5 := Lib.hid hm5
      have HR5 : Hid (rowL L (i + 1) = R3 ++ [32]) := Lib.hid (by rw [HR1.out, ← HR3.out, ← HR2.out, ← HRq.out])
      clear ho4 hg4 hv5 hm5 hR3
      go_wp2_with (first
        | (refine wpList_append_piece rfl (.tmp 23) (.tmp 24) rfl w.heap.size _ m3 R3 rfl HO5.out (some ⟨w4.heap.size, 0, none⟩) 1 1 m5 [32] rfl rfl (fun h => by cases h) _ _ HB5.out HM5.out (by have := HM5.out; have := HM3.out; have := HM2.out; have := HM1.out; have := HRl.out; omega) HG5.out.size ?_)
        | (refine wpList_world HV5.out ?_))
      intro q6 k6 w6 ho6 hg6
      have HG6 : Hid (Below w.heap.size w w6) := Lib.hid (HG5.out.grown hg6 HG5.out.size (fun k hk => (HO5.out.lt k hk).1))
      have HO6 : Hid (w6.ownsRow w.heap.size 5 1 (.slice q6 m5 k6) m5 (Go.Lib.byteCells (rowL L (i + 1)))) := Lib.hid (by rw [HR5.out]; exact ho6)
      have HM6 : Hid (m5 = (rowL L (i + 1)).length) := Lib.hid (by have h := HO6.out.1; rw [bc_len] at h; omega)
      clear ho6 hg6 c1
      go_wp2_with fail
      go_roundw
      case rel => exact ⟨i + 1, q6, k6, m5, rfl, by go_num, hlt, HM6.out, HO6, HG6⟩
      case measure => simp [RowKit.intOf]; omega
    · obtain rfl : N = i := by omega
      have hdi : decide ((N : Int) < (N : Int)) = false := decide_eq_false (by omega)
      have HMM := Lib.hid hm
      clear hlt hi hm
      go_wp2_with fail
      go_ret
      exact ⟨q, c, by rw [← HMM.out]; rfl, by rw [← HMM.out]; exact ho.out, hb.out⟩
end Go.Proofs.YtjjahcidncnogaaDoor
namespace Go.Proofs.YtjjahcidncnogaaDoor
open Go.ChangeShapes Go.WideShapes Go.ChangeAt Go.RowKit Go.Lib

theorem owns_shortS {w : World} {B n k g c : Nat} {xs : List Value} {e : TypeId} (h : w.ownsRow B e 1 (.slice (some ⟨g, 0, none⟩) n c) n xs) (hk : k ≤ n) : w.ownsRow B e 1 (.slice (some ⟨g, 0, none⟩) k c) k (xs.take k) := by
  refine ⟨by rw [List.length_take]; have := h.1; omega, ?_⟩
  rcases h.2 with ⟨hv, hn⟩ | ⟨g', cap, cur, hv, hB, hg, hn, hm, hs, ht⟩
  · cases hv
  · simp only [Value.slice.injEq] at hv
    obtain ⟨hv1, -, rfl⟩ := hv
    cases hv1
    exact .inr ⟨g, c, cur, rfl, hB, hg, by omega, hm, hs, by rw [← ht, Nat.mul_one, Nat.mul_one, List.take_take, Nat.min_eq_left hk]⟩
theorem own_text7 {w : World} {B n c : Nat} {q : Option Addr} {L : List UInt8} (h : w.ownsRow B 5 1 (.slice q n c) n (Go.Lib.byteCells L)) (hl : L.length = n) : (convert 28 9 (.slice q n c)).run Tryd.prog w = .ok (.string ⟨L.toArray⟩) w := by
  obtain ⟨q9, c9, he, hnl, hb9⟩ := owns_bytes h hl
  simp only [Value.slice.injEq, true_and] at he
  obtain ⟨rfl, rfl⟩ := he
  have h2 := bytes_text c hb9 hnl
  rwa [hl] at h2
theorem owns_cap9 {w : World} {B n c : Nat} {q : Option Addr} {xs : List Value} (h : w.ownsRow B 5 1 (.slice q n c) n xs) : n ≤ c := by
  rcases h.2 with ⟨hv, h0⟩ | ⟨g, cap, cur, hv, _, _, hnc, _⟩
  · omega
  · simp only [Value.slice.injEq] at hv
    obtain ⟨-, -, rfl⟩ := hv
    exact hnc
theorem blk_lt7 {w : World} {B n c : Nat} {q : Option Addr} {xs : List Value} (h : w.ownsRow B 5 1 (.slice q n c) n xs) : ∀ k, blkOf q = some k → B ≤ k ∧ k < w.heap.size := fun k hk => h.lt k ((ownBlock_slice q n c).trans hk)
theorem rowL_le (L : Nat → List UInt8) : ∀ N, (cat L N).length ≤ 1048576 → (rowL L N).length ≤ (cat L N).length + 23 * N
  | 0, _ => Nat.zero_le _
  | N + 1, h => by
    have e : (cat L (N + 1)).length = (cat L N).length + (L N).length := List.length_append
    have h1 := rowL_le L N (by omega)
    have h2 := itoa_length_le ((L N).length : Int) (by omega) (by omega)
    rw [itoa_nonneg] at h2
    rw [rowL, List.length_append, itemL_length]
    omega

set_option maxRecDepth 100000 in
set_option maxHeartbeats 1000000 in
theorem hmacRows_walk (q : Option Addr) (N cap : Nat) (P : Nat → Option Addr) (C : Nat → Nat) (L : Nat → List UInt8) (W : World) (hT : Tab W) (hTb : TabBelow Tryd.prog W.heap.size W "internal/strconv.uint64pow10" .u64 pow10Tab)
    (hnil : ∀ i, i < N → P i = none → L i = [] ∧ C i = 0) (hP : Parts W.heap.size q N P C L W) (hz : (cat L N).length + N ≤ 1048576) :
    Calls Tryd.prog 8 #[.slice q N cap] W fun e w' => e = .returned (.bool true) ∧ Below W.heap.size W w' := by
  have HT := Lib.hid hT
  have HTb : Hid (∀ u, Below W.heap.size W u → TabBelow Tryd.prog u.heap.size u "internal/strconv.uint64pow10" .u64 pow10Tab) := Lib.hid (fun u hu w' h => hTb w' (hu.trans (h.mono hu.size)))
  have HNil := Lib.hid hnil
  have HP := Lib.hid hP
  have HZ := Lib.hid hz
  have HN : Hid (N ≤ 1048576) := Lib.hid (by omega)
  have HRl : Hid ((rowL L N).length ≤ 140737488351000) := Lib.hid (by have := rowL_le L N (by omega); omega)
  have HLA := Lib.hid (lentAll_any q N cap HN.out P C L W hP hnil)
  obtain ⟨R, hR⟩ : ∃ R, rowL L N = R := ⟨_, rfl⟩
  obtain ⟨n, hn⟩ : ∃ n, R.length = n := ⟨_, rfl⟩
  rw [hR, hn] at HRl
  obtain ⟨st, hst⟩ : ∃ s : ByteArray, (⟨R.toArray⟩ : ByteArray) = s := ⟨_, rfl⟩
  have HR := Lib.hid hR
  have HRn := Lib.hid hn
  have HSt := Lib.hid hst
  clear hT hTb hnil hP hz hR hn hst
  go_enter Tryd.func8, Tryd.ntmps8
  go_wp2_with fail
  refine HLA.out.mono ?_
  rintro e w1 ⟨qa, ca, xs, rfl, hxs, ho1, hs1, hb1⟩
  have HXs := Lib.hid hxs
  have HO1 := Lib.hid ho1
  have HS1 := Lib.hid hs1
  have HG1 := Lib.hid hb1
  have HOut := Lib.hid (outer_any W.heap.size qa N ca HN.out _ L xs w1 ho1 hxs hs1)
  clear hxs ho1 hs1 hb1
  go_wp2_with fail
  refine HOut.out.mono ?_
  rintro e w2 ⟨g3, k3, ys, rfl, hys, ho2, ht2, hb2⟩
  have HYs := Lib.hid hys
  have HO2 := Lib.hid ho2
  have HT2 := Lib.hid ht2
  have HG12 := Lib.hid hb2
  have HG2 : Hid (Below W.heap.size W w2) := Lib.hid (HG1.out.trans (hb2.mono HG1.out.size))
  have HSW : Hid (∀ u, Below w2.heap.size w2 u → Below W.heap.size W u) := Lib.hid (fun u h => HG2.out.trans (h.mono HG2.out.size))
  have HB1 : Hid (∀ u, Below w2.heap.size w2 u → Below w1.heap.size w1 u) := Lib.hid (fun u h => HG12.out.trans (h.mono HG12.out.size))
  have HRef : Hid (∀ u, Below w2.heap.size w2 u → Calls Tryd.prog 50 #[.slice q N cap] u fun e w' => ∃ q c, e = .returned (.slice q n c) ∧ w'.ownsRow u.heap.size 5 1 (.slice q n c) n (Go.Lib.byteCells R) ∧ Below u.heap.size u w') := Lib.hid (fun u h => by
    have hw := HSW.out u h
    have hs := refRow_any q N cap HN.out P C L u ((HP.out.keep hw).wide hw.size) HNil.out (by rw [HR.out, HRn.out]; exact HRl.out)
    rw [HR.out, HRn.out] at hs
    exact hs)
  have HRow : Hid (∀ u, Below w2.heap.size w2 u → Calls Tryd.prog 51 #[.slice (some ⟨g3, 0, none⟩) N k3] u fun e w' => ∃ q c, e = .returned (.slice q n c) ∧ w'.ownsRow u.heap.size 5 1 (.slice q n c) n (Go.Lib.byteCells R) ∧ Below u.heap.size u w') := Lib.hid (fun u h => by
    have hb1 := HB1.out u h
    have ho : u.ownsRow w1.heap.size 28 1 (.slice (some ⟨g3, 0, none⟩) N k3) N xs := by
      have h1 := owns_shortS (keeps_row HO2.out (fun j hj => h.block j hj)) (show N ≤ N + 20 by omega)
      rwa [List.take_append_of_le_length (by rw [HXs.out]; exact Nat.le_refl _), List.take_of_length_le (by rw [HXs.out]; exact Nat.le_refl _)] at h1
    obtain ⟨P1, C1, hp1, hne, -⟩ := (HS1.out.below hb1).parts ho HXs.out (fun i hi => by have := cat_one_of L hi; have := HZ.out; omega)
    have hs := row_any (some ⟨g3, 0, none⟩) N k3 HN.out P1 C1 L u (HTb.out u (HSW.out u h)) hp1 (fun i hi e => absurd e (hne i hi)) (by rw [HR.out, HRn.out]; exact HRl.out)
    rw [HR.out, HRn.out] at hs
    exact hs)
  have HKeptAll : Hid (∀ u, Below w2.heap.size w2 u → Calls Tryd.prog 34 #[.slice qa N ca, .slice q N cap] u fun e w' => e = .returned (.bool true) ∧ Below u.heap.size u w') := Lib.hid (fun u h => by
    have hb := HB1.out u h
    have hw := HSW.out u h
    exact keptAll_any W.heap.size qa N ca HN.out L xs q cap P C u (keeps_row HO1.out (fun j hj => hb.block j hj)) HXs.out (HS1.out.below hb) ((HP.out.keep hw).wide hw.size) HNil.out)
  have HStays : Hid (∀ u, Below w2.heap.size w2 u → Calls Tryd.prog 35 #[.slice (some ⟨g3, 0, none⟩) (N + 20) k3, .slice q N cap] u fun e w' => e = .returned (.bool true) ∧ Below u.heap.size u w') := Lib.hid (fun u h => by
    have hb := HB1.out u h
    have hw := HSW.out u h
    exact stays_any w1.heap.size g3 N k3 HN.out (List.replicate 70 165) L xs ys q cap P C u (keeps_row HO2.out (fun j hj => h.block j hj)) HXs.out HYs.out W.heap.size (HS1.out.below hb) (HT2.out.below h) ((HP.out.keep hw).wide hw.size) HNil.out)
  have HWk : Hid (∀ u, Below w2.heap.size w2 u → Calls Tryd.prog 38 #[] u fun e w' => e = .returned (.bool true) ∧ Below u.heap.size u w') := Lib.hid (fun u h => wakes7_any u (HT.out.below (HSW.out u h)))
  have HSB : Hid (∀ u u', Below w2.heap.size w2 u → Below u.heap.size u u' → Below w2.heap.size w2 u') := Lib.hid (fun u u' h hb => h.trans (hb.mono h.size))
  have HS2 : Hid (Below w2.heap.size w2 w2) := Lib.hid (Below.refl _ _)
  clear hys ho2 ht2 hb2 HLA HOut
  go_wp2_with fail
  refine (HRef.out _ HS2.out).mono ?_
  rintro e w3 ⟨qr, kr, rfl, hor, hb3⟩
  have HS3 : Hid (Below w2.heap.size w2 w3) := Lib.hid hb3
  have htr := own_text7 hor HRn.out
  rw [HSt.out] at htr
  clear hor hb3
  go_wp2_with fail
  clear htr
  refine (HRow.out _ HS3.out).mono ?_
  rintro e w4 ⟨q1, k1, rfl, ho1, hb4⟩
  have HS4 : Hid (Below w2.heap.size w2 w4) := Lib.hid (HSB.out _ _ HS3.out hb4)
  have HA4 := Lib.hid ho1
  clear ho1 hb4
  go_wp2_with fail
  refine (HRow.out _ HS4.out).mono ?_
  rintro e w5 ⟨q2, k2, rfl, ho2, hb5⟩
  have HS5 : Hid (Below w2.heap.size w2 w5) := Lib.hid (HSB.out _ _ HS4.out hb5)
  have HA5 : Hid (w5.ownsRow w3.heap.size 5 1 (.slice q1 n k1) n (Go.Lib.byteCells R)) := Lib.hid (owns_keeps HA4.out (fun j _ hj => hb5.block j hj))
  have HB5 := Lib.hid ho2
  have HNe : Hid (∀ k, blkOf q2 = some k → blkOf q1 ≠ some k) := Lib.hid (fun k h2 h1 => by
    have e1 := (blk_lt7 HA4.out k h1).2
    have e2 := (blk_lt7 HB5.out k h2).1
    omega)
  have HB2f : Hid (∀ k, blkOf q2 = some k → w2.heap.size ≤ k) := Lib.hid (fun k h => Nat.le_trans HS4.out.size (blk_lt7 HB5.out k h).1)
  have HB1f : Hid (∀ k, blkOf q1 = some k → w2.heap.size ≤ k) := Lib.hid (fun k h => Nat.le_trans HS3.out.size (blk_lt7 HA4.out k h).1)
  have ht1 := own_text7 HA5.out HRn.out
  have ht2 := own_text7 HB5.out HRn.out
  rw [HSt.out] at ht1 ht2
  clear ho2 hb5 HA4
  go_wp2_with fail
  clear ht1 ht2
  refine (HKeptAll.out _ HS5.out).mono ?_
  rintro e w6 ⟨rfl, hb6⟩
  have HS6 : Hid (Below w2.heap.size w2 w6) := Lib.hid (HSB.out _ _ HS5.out hb6)
  have HA6 := Lib.hid (owns_keeps HA5.out (fun j _ hj => hb6.block j hj))
  have HB6 := Lib.hid (owns_keeps HB5.out (fun j _ hj => hb6.block j hj))
  clear hb6 HA5 HB5
  go_wp2_with fail
  refine (HStays.out _ HS6.out).mono ?_
  rintro e w7 ⟨rfl, hb7⟩
  have HS7 : Hid (Below w2.heap.size w2 w7) := Lib.hid (HSB.out _ _ HS6.out hb7)
  have HA7 := Lib.hid (owns_keeps HA6.out (fun j _ hj => hb7.block j hj))
  have HB7 := Lib.hid (owns_keeps HB6.out (fun j _ hj => hb7.block j hj))
  have HSp := Lib.hid (spoil_any q1 n k1 102 w7 (rm_owns HA7.out) (owns_cap9 HA7.out) (by have := HRl.out; omega))
  clear hb7 HA6 HB6
  go_wp2_with fail
  refine HSp.out.mono ?_
  rintro e w8 ⟨rfl, hg8⟩
  have HS8 : Hid (Below w2.heap.size w2 w8) := Lib.hid (HS7.out.grown hg8 HS7.out.size (fun k hk => HB1f.out k hk))
  have HB8 := Lib.hid (owns_other HB7.out hg8 (fun k hk => HNe.out k ((ownBlock_slice q2 n k2).symm.trans hk)))
  have ht2 := own_text7 HB8.out HRn.out
  rw [HSt.out] at ht2
  clear hg8 HB7 HA7 HSp
  go_wp2_with fail
  clear ht2
  refine (HKeptAll.out _ HS8.out).mono ?_
  rintro e w9 ⟨rfl, hb9⟩
  have HS9 : Hid (Below w2.heap.size w2 w9) := Lib.hid (HSB.out _ _ HS8.out hb9)
  have HB9 := Lib.hid (owns_keeps HB8.out (fun j _ hj => hb9.block j hj))
  have HSp := Lib.hid (spoil_any q2 n k2 119 w9 (rm_owns HB9.out) (owns_cap9 HB9.out) (by have := HRl.out; omega))
  clear hb9 HB8
  go_wp2_with fail
  refine HSp.out.mono ?_
  rintro e w10 ⟨rfl, hg10⟩
  have HS10 : Hid (Below w2.heap.size w2 w10) := Lib.hid (HS9.out.grown hg10 HS9.out.size (fun k hk => HB2f.out k hk))
  clear hg10 HB9 HSp
  go_wp2_with fail
  refine (HRow.out _ HS10.out).mono ?_
  rintro e w11 ⟨q3, k4, rfl, ho11, hb11⟩
  have HS11 : Hid (Below w2.heap.size w2 w11) := Lib.hid (HSB.out _ _ HS10.out hb11)
  have ht3 := own_text7 ho11 HRn.out
  rw [HSt.out] at ht3
  clear ho11 hb11
  go_wp2_with fail
  clear ht3
  refine (HKeptAll.out _ HS11.out).mono ?_
  rintro e w12 ⟨rfl, hb12⟩
  have HS12 : Hid (Below w2.heap.size w2 w12) := Lib.hid (HSB.out _ _ HS11.out hb12)
  clear hb12
  go_wp2_with fail
  refine (HStays.out _ HS12.out).mono ?_
  rintro e w13 ⟨rfl, hb13⟩
  have HS13 : Hid (Below w2.heap.size w2 w13) := Lib.hid (HSB.out _ _ HS12.out hb13)
  clear hb13
  go_wp2_with fail
  refine (HWk.out _ HS13.out).mono ?_
  rintro e w14 ⟨rfl, hb14⟩
  have HGf := Lib.hid (HSW.out _ (HSB.out _ _ HS13.out hb14))
  clear hb14
  go_wp2_with fail
  go_ret
  exact ⟨rfl, HGf.out⟩
end Go.Proofs.YtjjahcidncnogaaDoor
