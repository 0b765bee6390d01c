/- The contracts of utf's Feeder. -/
import Derived.Test.YtjbhehkkigopmaaUtfFeedP
import Derived.Test.YtjbhehkkigopmaaUtfUnitsR
namespace Go.Proofs.Ytjbhehkkigopmaa
open Go.RowKit Go.Joins Go.Lib

/-- A feeder's block. -/
def FeedBlk (F f0 f1 f2 held taken : Nat) (wrong : Bool) (w : World) : Prop :=
  w.heap[F]? = some (.cells #[.int .u8 f0, .int .u8 f1, .int .u8 f2, .int .i64 held, .int .i64 taken, .bool wrong] 107 (0, 0))
/-- What is kept stands at the form's head. -/
def TailAt (f0 f1 f2 : Nat) (tl : List UInt8) : Prop := tl.length ≤ 3 ∧ ∀ j x, tl[j]? = some x → (j = 0 ∧ f0 = x.toNat) ∨ (j = 1 ∧ f1 = x.toNat) ∨ (j = 2 ∧ f2 = x.toNat)

theorem tail_cell {F f0 f1 f2 held taken : Nat} {wrong : Bool} {w : World} (h : FeedBlk F f0 f1 f2 held taken wrong w) {tl : List UInt8} (ht : TailAt f0 f1 f2 tl) (j : Nat) (hj : j < tl.length) : w.cell? ⟨F, j, none⟩ = some (.int .u8 tl[j].toNat) := by
  have hx : tl[j]? = some tl[j] := List.getElem?_eq_getElem hj
  unfold FeedBlk at h
  rcases ht.2 j _ hx with ⟨rfl, e⟩ | ⟨rfl, e⟩ | ⟨rfl, e⟩ <;> (rw [cell_of_block h, ← e]; rfl)

theorem lenForm : Try.prog.arrayLen 105 = 3 := by kernel_rfl
theorem sizeForm (w : World) : (sizeOf (Try.prog.elem 105)).run Try.prog w = .ok 1 w := by kernel_rfl
theorem arrForm : Try.prog.underlying 105 = some (.array (Try.prog.arrayLen 105) (Try.prog.elem 105)) := by kernel_rfl
/-- f.form[:held]. -/
theorem slice_form (F held : Nat) (h : held ≤ 3) (w : World) : (Instr.sliceAt 105 (.pointer (some ⟨F, 0, none⟩)) none (some (.int .i64 (held : Int))) none).run Try.prog w = .ok (.slice (some ⟨F, 0, none⟩) held 3) w := by
  rw [run_sliceAt_array_h w 105 ⟨F, 0, none⟩ arrForm .i64 (held : Int) (by omega) (by rw [lenForm]; omega), sizeForm w, lenForm]
  simp only [Result.andThen, slicedAt, Int.toNat_natCast, Nat.sub_zero]
  rw [if_neg (by omega)]
  rfl

set_option maxRecDepth 100000 in
set_option maxHeartbeats 4000000 in
theorem cursor_any (F f0 f1 f2 held taken : Nat) (wrong : Bool) (w : World) (hF : FeedBlk F f0 f1 f2 held taken wrong w) (tl : List UInt8) (c : Cur) (hh : held = tl.length) (ht : TailAt f0 f1 f2 tl) (hk : Kept tl c) :
    Calls Try.prog 61 #[.pointer (some ⟨F, 0, none⟩)] w fun e w' => ∃ d : Cur, e = .returned (.agg #[.int .i64 d.left, .int .u8 d.least, .int .u8 d.most]) ∧ d.ok ∧ Kept tl d ∧ (0 < c.left ↔ 0 < d.left) ∧ Below w.heap.size w w' := by
  obtain ⟨d, hd, hdk, hdc⟩ : ∃ d, chk tl 0 cur0 = (tl.length, false, d) ∧ Kept tl d ∧ (0 < c.left ↔ 0 < d.left) := by
    rcases hk with ⟨rfl, h0⟩ | ⟨h1, h2, h3, h4⟩
    · exact ⟨cur0, rfl, kept_zero, by simp [cur0]; omega⟩
    · exact ⟨c, h4, .inr ⟨h1, h2, h3, h4⟩, Iff.rfl⟩
  have hcell := fun j hj => tail_cell hF ht j hj
  have hF' := hF
  unfold FeedBlk at hF'
  have hlt : F < w.heap.size := (Array.getElem?_eq_some_iff.1 hF').1
  have ch : w.cell? ⟨F, 3, none⟩ = some (.int .i64 held) := by rw [cell_of_block hF']; rfl
  have h3 := ht.1
  have HC := Lib.hid hcell
  have HH := Lib.hid hh
  have HDD := Lib.hid hd
  have HDK := Lib.hid hdk
  have HDC := Lib.hid hdc
  have hle : held ≤ 3 := by omega
  have hsl := slice_form F held hle
  clear hF hF' hcell hh hd hdk hdc h3 ht hk
  go_enter Try.func61, Try.ntmps61
  go_wp2_with fail
  go_region
  go_wp2_with fail
  go_loopw [15] (fun v wr => ∃ (i : Nat) (ci : Cur), i ≤ held ∧ v = .int .i64 i ∧ ci.ok ∧ CurAt ci (w.heap.size + 1) wr ∧ Below w.heap.size w wr ∧ wr.heap[w.heap.size]? = some (.cells #[.int .i64 0, .int .u8 0, .int .u8 0] 91 (0, 0)) ∧ Hid (chk (tl.drop i) i ci = (tl.length, false, d)))
    (fun v _ => held - (intOf v).toNat)
  case atStart => exact ⟨0, cur0, Nat.zero_le _, rfl, cur0_ok, (by have h := (MapKept.heap_alloc (w.alloc (.cells #[.int .i64 0, .int .u8 0, .int .u8 0] 91)) (.cells #[.int .i64 0, .int .u8 0, .int .u8 0] 91)).1; rw [World.size_alloc] at h; exact h), by go_grown, (by
    have h := (MapKept.heap_alloc w (.cells #[.int .i64 0, .int .u8 0, .int .u8 0] 91)).1
    exact (Below.heap_alloc _ _ w.heap.size (by simp)).trans h), HDD⟩
  case round =>
    obtain ⟨i, ci, hi, rfl, hok, hc, hb, hres, hk⟩ := hrel
    have hsz : w.heap.size + 1 < wr.heap.size := (Array.getElem?_eq_some_iff.1 hc).1
    by_cases hlt : i < held
    · have hil : i < tl.length := by rw [← HH.out]; exact hlt
      have hx0 := (hb.cell (p := ⟨F, i, none⟩) (by assumption)).trans (HC.out i hil)
      have hd := List.drop_eq_getElem_cons hil
      obtain ⟨x, hx⟩ : ∃ x, tl[i] = x := ⟨_, rfl⟩
      rw [hx] at hx0 hd
      have hk2 := hk.out
      rw [hd] at hk2
      have hxl := x.toNat_lt
      have S := step_any ci hok x.toNat (w.heap.size + 1) (by omega) wr hc
      cases hst : stepC ci x.toNat with
      | none => rw [chk_wrong _ _ _ _ hst] at hk2; simp at hk2
      | some f =>
        rw [chk_on _ _ _ _ _ hst] at hk2
        have HK := Lib.hid hk2
        have S' : Calls Try.prog 50 #[.pointer (some ⟨w.heap.size + 1, 0, none⟩), .int .u8 x.toNat] wr fun e w' => e = .returned (.bool true) ∧ CurAt f (w.heap.size + 1) w' ∧ But wr.heap.size (w.heap.size + 1) wr w' :=
          S.mono fun e w' h => by
            unfold Stepped at h
            rw [hst] at h
            exact h
        have HS := Lib.hid S'
        have hokd := stepC_ok hok hst
        have HRES := Lib.hid hres
        clear S S' hst hk hk2 hx hd hres
        go_wp2_with fail
        refine HS.out.mono ?_
        rintro e w1 ⟨rfl, hc', hb1⟩
        have hres1 := Lib.hid ((hb1.block w.heap.size (by omega) (by omega)).trans HRES.out)
        go_wp2_with fail
        go_roundw
        case rel => exact ⟨i + 1, f, by omega, by go_num, hokd, hc', hb.trans (hb1.below (by omega) (by omega)), hres1.out, HK⟩
        case measure => simp [intOf]; omega
    · obtain rfl : i = held := by omega
      have hk2 := hk.out
      rw [List.drop_of_length_le (by rw [← HH.out]; exact Nat.le_refl _)] at hk2
      simp only [chk, Prod.mk.injEq] at hk2
      obtain ⟨_, _, rfl⟩ := hk2
      have hok2 := Lib.hid hok
      unfold CurAt at hc
      have k0 : wr.cell? ⟨w.heap.size + 1, 0, none⟩ = some (.int .i64 ci.left) := by rw [cell_of_block hc]; rfl
      have k1 : wr.cell? ⟨w.heap.size + 1, 1, none⟩ = some (.int .u8 ci.least) := by rw [cell_of_block hc]; rfl
      have k2 : wr.cell? ⟨w.heap.size + 1, 2, none⟩ = some (.int .u8 ci.most) := by rw [cell_of_block hc]; rfl
      have r0 : wr.cell? ⟨w.heap.size, 0, none⟩ = some (.int .i64 0) := by rw [cell_of_block hres]; rfl
      have r1 : wr.cell? ⟨w.heap.size, 1, none⟩ = some (.int .u8 0) := by rw [cell_of_block hres]; rfl
      have r2 : wr.cell? ⟨w.heap.size, 2, none⟩ = some (.int .u8 0) := by rw [cell_of_block hres]; rfl
      have f0 : wr.frozen? ⟨w.heap.size, 0, none⟩ = false := unfrozen_of_block hres 0
      have f1 : wr.frozen? ⟨w.heap.size, 1, none⟩ = false := unfrozen_of_block hres 1
      have f2 : wr.frozen? ⟨w.heap.size, 2, none⟩ = false := unfrozen_of_block hres 2
      have HRES := Lib.hid hres
      clear hc hres hk hok
      go_wp2_with fail
      have HBF := Lib.hid (((hb.setCell (p := ⟨w.heap.size, 0, none⟩) (Nat.le_refl _) (.int .i64 ci.left)).setCell (p := ⟨w.heap.size, 1, none⟩) (Nat.le_refl _) (.int .u8 ci.least)).setCell (p := ⟨w.heap.size, 2, none⟩) (Nat.le_refl _) (.int .u8 ci.most))
      have hf := row_set (i := 2) (row_set (i := 1) (row_set (i := 0) HRES.out (.int .i64 ci.left)) (.int .u8 ci.least)) (.int .u8 ci.most)
      have q0 : (((wr.setCell ⟨w.heap.size, 0, none⟩ (.int .i64 ci.left)).setCell ⟨w.heap.size, 1, none⟩ (.int .u8 ci.least)).setCell ⟨w.heap.size, 2, none⟩ (.int .u8 ci.most)).cell? ⟨w.heap.size, 0, none⟩ = some (.int .i64 ci.left) := by rw [cell_of_block hf]; rfl
      have q1 : (((wr.setCell ⟨w.heap.size, 0, none⟩ (.int .i64 ci.left)).setCell ⟨w.heap.size, 1, none⟩ (.int .u8 ci.least)).setCell ⟨w.heap.size, 2, none⟩ (.int .u8 ci.most)).cell? ⟨w.heap.size, 1, none⟩ = some (.int .u8 ci.least) := by rw [cell_of_block hf]; rfl
      have q2 : (((wr.setCell ⟨w.heap.size, 0, none⟩ (.int .i64 ci.left)).setCell ⟨w.heap.size, 1, none⟩ (.int .u8 ci.least)).setCell ⟨w.heap.size, 2, none⟩ (.int .u8 ci.most)).cell? ⟨w.heap.size, 2, none⟩ = some (.int .u8 ci.most) := by rw [cell_of_block hf]; rfl
      generalize ((wr.setCell ⟨w.heap.size, 0, none⟩ (.int .i64 ci.left)).setCell ⟨w.heap.size, 1, none⟩ (.int .u8 ci.least)).setCell ⟨w.heap.size, 2, none⟩ (.int .u8 ci.most) = wf at *
      refine bodyPost_ret (v := .agg #[.int .i64 ci.left, .int .u8 ci.least, .int .u8 ci.most]) (by simp [results, Try.results61, go_sem, q0, q1, q2]) rfl ⟨ci, rfl, hok2.out, HDK.out, HDC.out, ?_⟩
      exact HBF.out
end Go.Proofs.Ytjbhehkkigopmaa
