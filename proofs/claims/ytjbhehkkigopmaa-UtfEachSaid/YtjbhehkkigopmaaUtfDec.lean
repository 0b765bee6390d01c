/- The contracts of utf's Decode, Encode and what they call. -/
import Derived.Test.YtjbhehkkigopmaaCheck
import Derived.Test.YtjbhehkkigopmaaUtfEnc
import Derived.Test.YtjbhehkkigopmaaRowB
import Derived.Laws.BitsAllLaws
import Derived.Laws.Runes
namespace Go.Proofs.Ytjbhehkkigopmaa
open Go.RowKit Go.Joins Go.Lib

theorem ret32 {a b : Int} (h : a = b) : Ending.returned (.int .i32 a) = .returned (.int .i32 b) := by rw [h]
theorem encodeRune_le (r : Int) : (encodeRune r).length ≤ 4 := by
  have h := (encodeRuneZ_length r).2
  unfold encodeRune
  rw [List.length_map]
  exact h
theorem encodeRune_pos (r : Int) : 1 ≤ (encodeRune r).length := by
  have h := (encodeRuneZ_length r).1
  unfold encodeRune
  rw [List.length_map]
  exact h

set_option maxRecDepth 100000 in
theorem join_one (r x : Nat) (hx : x < 128) (w : World) :
    Calls Try.prog 51 #[.int .i32 r, .int .u8 x] w fun e w' => e = .returned (.int .i32 x) ∧ w = w' := by
  go_enter Try.func51, Try.ntmps51
  go_wp2
  go_ret
  exact ⟨rfl, rfl⟩

set_option maxRecDepth 100000 in
theorem join_on (r x : Nat) (hr : r ≤ 131071) (hx : 128 ≤ x) (hx2 : x ≤ 191) (w : World) :
    Calls Try.prog 51 #[.int .i32 r, .int .u8 x] w fun e w' => e = .returned (.int .i32 (r * 64 + (x - 128) : Nat)) ∧ w = w' := by
  go_enter Try.func51, Try.ntmps51
  go_wp2
  go_ret
  exact ⟨ret32 (by omega), rfl⟩

set_option maxRecDepth 100000 in
theorem join_lead (r x : Nat) (hx : 192 ≤ x) (hx2 : x ≤ 247) (w : World) :
    Calls Try.prog 51 #[.int .i32 r, .int .u8 x] w fun e w' => e = .returned (.int .i32 (leadOf x)) ∧ w = w' := by
  go_enter Try.func51, Try.ntmps51
  go_wp2
  all_goals
    go_ret
    exact ⟨ret32 (by unfold leadOf; (repeat' split) <;> omega), rfl⟩

/-- A row of bytes that a call has made, of so many places, the first of them known. -/
def HeldB (g : Nat) (l : List UInt8) (cap : Nat) (w : World) : Prop :=
  ∃ C fz, w.heap[g]? = some (.cells C 5 (fz, fz + 1)) ∧ C.size = cap ∧ cap ≤ fz ∧ l.length ≤ cap ∧ cap ≤ maxLen ∧ (∀ j (h : j < l.length), C[j]? = some (.int .u8 l[j].toNat)) ∧ ∀ j, j < cap → ∃ x : Int, C[j]? = some (.int .u8 x)

theorem held_row (s : ByteArray) (l : List UInt8) (hl : s.data.toList = l) (w : World) (cap fz : Nat) (hc : s.size ≤ cap) (hm : cap ≤ maxLen) (hf : fz = (bytesRow s cap).size) :
    HeldB w.heap.size l cap (w.alloc (.cells (bytesRow s cap) 5 (fz, fz + 1))) := by
  have hsz : (bytesRow s cap).size = cap := by
    simp only [bytesRow, Array.size_append, Array.size_map, Array.size_replicate]
    have : s.data.size = s.size := rfl
    omega
  have hll : l.length = s.size := by rw [← hl, Array.length_toList]; rfl
  refine ⟨_, fz, (MapKept.heap_alloc w _).1, hsz, by omega, by omega, hm, fun j hj => ?_, fun j hj => ?_⟩
  · have hj' : j < s.data.size := by have : s.data.size = s.size := rfl; omega
    unfold bytesRow
    rw [Array.getElem?_append_left (by simpa using hj')]
    simp only [Array.getElem?_map, Array.getElem?_eq_getElem hj', Option.map_some]
    congr 3
    subst hl
    simp
  · by_cases hj' : j < s.data.size
    · unfold bytesRow
      rw [Array.getElem?_append_left (by simpa using hj')]
      simp only [Array.getElem?_map, Array.getElem?_eq_getElem hj', Option.map_some]
      exact ⟨_, rfl⟩
    · have hj3 : j - s.data.size < cap - s.size := by have : s.data.size = s.size := rfl; omega
      refine ⟨0, ?_⟩
      unfold bytesRow
      rw [Array.getElem?_append_right (by rw [Array.size_map]; omega)]
      simp only [Array.size_map]
      rw [Array.getElem?_replicate, if_pos hj3]

/-- What Encode tells of a character. -/
def EncOut (r : Nat) (w : World) (e : Ending) (w' : World) : Prop :=
  ∃ cap, e = .returned (.tuple #[.slice (some ⟨w.heap.size, 0, none⟩) (encodeRune r).length cap, .nilIface]) ∧ HeldB w.heap.size (encodeRune r) cap w' ∧ Below w.heap.size w w' ∧ w'.heap.size = w.heap.size + 1

set_option maxRecDepth 100000 in
set_option maxHeartbeats 2000000 in
theorem encode_yes (r : Nat) (hr : scalar r) (w : World) : Calls Try.prog 28 #[.int .i32 r] w (EncOut r w) := by
  have he := encode_form r hr
  obtain ⟨s, hs⟩ : ∃ s, Utf8.encode (r : Int) = s := ⟨_, rfl⟩
  rw [hs] at he
  have hlen : s.size = (encodeRune r).length := by rw [← he, Array.length_toList]; rfl
  have h5 := encodeRune_le r
  have hcv := run_bytes_of_string (P := Try.prog) w 9 22 5 s Try.underlying9 Try.underlying22 Try.underlying5
  have hm : grownCap w s.size 0 5 ≤ maxLen := grownCap_le_maxLen _ _ _ _ (by rw [hlen]; unfold maxLen; omega)
  have hg := grownCap_ge w s.size 0 5
  obtain ⟨cap, hcap⟩ : ∃ cap, grownCap w s.size 0 5 = cap := ⟨_, rfl⟩
  rw [hcap] at hcv hm hg
  have hfin : EncOut r w (.returned (.tuple #[.slice (some ⟨w.heap.size, 0, none⟩) s.size cap, .nilIface])) (w.drew.alloc (.cells (bytesRow s cap) 5 ((bytesRow s cap).size, (bytesRow s cap).size + 1))) :=
    ⟨cap, by rw [hlen], held_row s (encodeRune r) he w.drew cap _ hg hm rfl, (below_drewN 1 (Below.refl _ _)).alloc (Nat.le_refl _) _, by simp⟩
  obtain ⟨v, hv⟩ : ∃ v, w.drew.alloc (.cells (bytesRow s cap) 5 ((bytesRow s cap).size, (bytesRow s cap).size + 1)) = v := ⟨_, rfl⟩
  rw [hv] at hfin hcv
  have HF := Lib.hid hfin
  have hsc : 0 ≤ (r : Int) ∧ ((r : Int) < 55296 ∨ (57343 < (r : Int) ∧ (r : Int) ≤ 1114111)) := by unfold scalar at hr; omega
  clear he hlen h5 hfin hr hv hcap hm hg
  obtain ⟨i, hi⟩ : ∃ i : Int, (r : Int) = i := ⟨_, rfl⟩
  rw [hi] at hsc hs ⊢
  clear hi
  obtain ⟨h0, hsc⟩ := hsc
  rcases hsc with h1 | ⟨h1, h2⟩
  all_goals
    go_enter Try.func28, Try.ntmps28
    go_wp2
    go_ret2
    exact HF.out

set_option maxRecDepth 100000 in
set_option maxHeartbeats 2000000 in
theorem encode_no (r : Int) (hr0 : -2147483648 ≤ r) (hr1 : r ≤ 2147483647) (hr : r < 0 ∨ (55296 ≤ r ∧ r ≤ 57343) ∨ 1114111 < r) (w : World) :
    Calls Try.prog 28 #[.int .i32 r] w fun e w' => e = .returned (.tuple #[.slice none 0 0, .iface 24 (.int .i64 2)]) ∧ w = w' := by
  have h3 : r < 0 ∨ (¬ r < 0 ∧ 1114111 < r) ∨ (¬ r < 0 ∧ ¬ 1114111 < r ∧ 55296 ≤ r ∧ r ≤ 57343) := by omega
  clear hr
  rcases h3 with h1 | ⟨h1, h2⟩ | ⟨h1, h2, h3, h4⟩
  all_goals
    go_enter Try.func28, Try.ntmps28
    go_wp2
    go_ret2
    exact ⟨rfl, rfl⟩

/-- What the bytes so far and one more come to. -/
def joinN (acc x : Nat) : Nat := if x < 128 then x else if x < 192 then acc * 64 + (x - 128) else leadOf x
theorem join_any (r x : Nat) (hr : r ≤ 131071) (hx : x ≤ 247) (w : World) :
    Calls Try.prog 51 #[.int .i32 r, .int .u8 x] w fun e w' => e = .returned (.int .i32 (joinN r x)) ∧ w = w' := by
  unfold joinN
  by_cases h1 : x < 128
  · rw [if_pos h1]; exact join_one r x h1 w
  · rw [if_neg h1]
    by_cases h2 : x < 192
    · rw [if_pos h2]; exact join_on r x hr (by omega) (by omega) w
    · rw [if_neg h2]; exact join_lead r x (by omega) hx w

/-- Where Decode's loop stands. -/
def OnDec (R : Form) (l : List UInt8) (i : Nat) (c : Cur) (acc : Nat) : Prop :=
  (i = 0 ∧ c = cur0 ∧ acc = 0 ∧ formAt l = R) ∨
  (0 < c.left ∧ 128 ≤ c.least ∧ c.most ≤ 191 ∧ formOn c.left c.least c.most acc (l.drop i) i = R ∧ c.left + i ≤ 4 ∧ 1 ≤ i ∧ (i = 1 → acc < 32) ∧ (i = 2 → acc < 2048) ∧ (i = 3 → acc < 131072))

theorem dec_acc {R : Form} {l : List UInt8} {i : Nat} {c : Cur} {acc : Nat} (h : OnDec R l i c acc) : acc ≤ 131071 := by
  rcases h with ⟨_, _, h, _⟩ | ⟨h1, _, _, _, h2, h3, h4, h5, h6⟩
  · omega
  · have : i = 1 ∨ i = 2 ∨ i = 3 := by omega
    rcases this with rfl | rfl | rfl <;> omega
theorem dec_end {R : Form} {l : List UInt8} {c : Cur} {acc : Nat} (h : OnDec R l l.length c acc) (hl : l ≠ []) : R = .cut := by
  rcases h with ⟨h, _⟩ | ⟨h1, _, _, h, _⟩
  · exact absurd (List.length_eq_zero_iff.1 h) hl
  · rw [List.drop_of_length_le (Nat.le_refl _)] at h
    obtain ⟨m, hm⟩ : ∃ m, c.left = m + 1 := ⟨c.left - 1, by omega⟩
    rw [hm] at h
    exact h.symm
theorem stepC_range {c d : Cur} {x : Nat} (h : stepC c x = some d) (hc : c.left = 0 ∨ c.most ≤ 191) : x ≤ 247 := by
  unfold stepC at h
  split at h
  · split at h
    · cases h
    · rcases hc with hc | hc <;> omega
  · split at h
    · omega
    · split at h
      · cases h
      · omega
theorem dec_wrong {R : Form} {l : List UInt8} {i : Nat} {c : Cur} {acc : Nat} (h : OnDec R l i c acc) (x : UInt8) (hx : l[i]? = some x) (hs : stepC c x.toNat = none) : R = .byte i := by
  obtain ⟨h1, h2⟩ := List.getElem?_eq_some_iff.1 hx
  rcases h with ⟨rfl, rfl, rfl, h⟩ | ⟨k1, _, _, h, _⟩
  · cases l with
    | nil => simp at h1
    | cons y t =>
      simp only [List.getElem_cons_zero] at h2
      subst h2
      rw [← h]
      simp only [formAt]
      unfold stepC cur0 at hs
      rw [if_neg (by simp)] at hs
      by_cases a1 : y.toNat < 128
      · rw [if_pos a1] at hs; cases hs
      · rw [if_neg a1] at hs
        by_cases a2 : y.toNat < 194 ∨ 244 < y.toNat
        · rw [if_neg a1, if_pos a2]
        · rw [if_neg a2] at hs; cases hs
  · rw [List.drop_eq_getElem_cons h1, h2] at h
    obtain ⟨m, hm⟩ : ∃ m, c.left = m + 1 := ⟨c.left - 1, by omega⟩
    rw [hm] at h
    simp only [formOn] at h
    unfold stepC at hs
    rw [if_pos k1] at hs
    by_cases a : x.toNat < c.least ∨ c.most < x.toNat
    · rw [if_pos a] at h; exact h.symm
    · rw [if_neg a] at hs; cases hs
theorem dec_on {R : Form} {l : List UInt8} {i : Nat} {c d : Cur} {acc : Nat} (h : OnDec R l i c acc) (x : UInt8) (hx : l[i]? = some x) (hs : stepC c x.toNat = some d) :
    x.toNat ≤ 247 ∧ ((d.left = 0 ∧ R = .ok (joinN acc x.toNat) (i + 1)) ∨ (0 < d.left ∧ OnDec R l (i + 1) d (joinN acc x.toNat))) := by
  obtain ⟨h1, h2⟩ := List.getElem?_eq_some_iff.1 hx
  rcases h with ⟨rfl, rfl, rfl, h⟩ | ⟨k1, k2, k3, h, k4, k5, k6, k7, k8⟩
  · refine ⟨stepC_range hs (.inl rfl), ?_⟩
    cases l with
    | nil => simp at h1
    | cons y t =>
      simp only [List.getElem_cons_zero] at h2
      subst h2
      simp only [formAt] at h
      by_cases a1 : y.toNat < 128
      · rw [if_pos a1] at h
        unfold stepC cur0 at hs
        rw [if_neg (by simp), if_pos a1] at hs
        cases hs
        refine .inl ⟨rfl, ?_⟩
        unfold joinN
        rw [if_pos a1, ← h]
      · rw [if_neg a1] at h
        by_cases a2 : y.toNat < 194 ∨ 244 < y.toNat
        · unfold stepC cur0 at hs
          rw [if_neg (by simp), if_neg a1, if_pos a2] at hs
          cases hs
        · rw [if_neg a2] at h
          rw [stepC_lead' cur0 rfl y.toNat (by omega) (by omega)] at hs
          cases hs
          refine .inr ⟨leftOf_pos _, .inr ⟨leftOf_pos _, ?_, ?_, ?_, ?_, Nat.le_refl _, fun _ => ?_, by omega, by omega⟩⟩
          · show 128 ≤ loOf y.toNat
            unfold loOf; (repeat' split) <;> omega
          · show hiOf y.toNat ≤ 191
            unfold hiOf; (repeat' split) <;> omega
          · unfold joinN
            rw [if_neg a1, if_neg (by omega)]
            exact h
          · have := leftOf_le y.toNat
            show leftOf y.toNat + 1 ≤ 4
            omega
          · unfold joinN leadOf
            rw [if_neg a1, if_neg (by omega)]
            (repeat' split) <;> omega
  · refine ⟨stepC_range hs (.inr k3), ?_⟩
    rw [List.drop_eq_getElem_cons h1, h2] at h
    obtain ⟨m, hm⟩ : ∃ m, c.left = m + 1 := ⟨c.left - 1, by omega⟩
    rw [hm] at h
    simp only [formOn] at h
    unfold stepC at hs
    rw [if_pos k1] at hs
    by_cases a : x.toNat < c.least ∨ c.most < x.toNat
    · rw [if_pos a] at hs; cases hs
    · rw [if_neg a] at hs h
      cases hs
      have hj : joinN acc x.toNat = acc * 64 + (x.toNat - 128) := by
        unfold joinN
        rw [if_neg (by omega), if_pos (by omega)]
      rw [hj]
      rcases Nat.eq_zero_or_pos m with rfl | hm0
      · refine .inl ⟨by show c.left - 1 = 0; omega, ?_⟩
        rw [← h]
        rfl
      · refine .inr ⟨by show 0 < c.left - 1; omega, .inr ⟨by show 0 < c.left - 1; omega, Nat.le_refl _, Nat.le_refl _, ?_, ?_, by omega, by omega, fun _ => ?_, fun _ => ?_⟩⟩
        · rw [← h]
          show formOn (c.left - 1) 128 191 _ _ _ = _
          rw [hm]
          rfl
        · show c.left - 1 + (i + 1) ≤ 4
          omega
        · have := k6 (by omega); omega
        · have := k7 (by omega); omega

/-- What Decode tells of a form. -/
def decVal (p len : Nat) : Form → Value
  | .ok r n => .tuple #[.int .i32 r, .int .i64 n, .nilIface]
  | .byte k => .tuple #[.int .i32 0, .int .i64 0, .iface 81 (.agg #[.int .i64 30, .int .i64 ((p : Int) + (k : Int))])]
  | .cut => .tuple #[.int .i32 0, .int .i64 0, .iface 81 (.agg #[.int .i64 31, .int .i64 len])]

set_option maxRecDepth 100000 in
set_option maxHeartbeats 8000000 in
theorem decode_any (pb off cap p : Nat) (l : List UInt8) (w : World) (hcell : ∀ j (h : j < l.length), w.cell? ⟨pb, off + j, none⟩ = some (.int .u8 l[j].toNat)) (hpb : pb < w.heap.size) (hp : p < l.length) (hcap : l.length ≤ cap)
    (hlen : l.length ≤ 140737488351232) :
    Calls Try.prog 25 #[.slice (some ⟨pb, off, none⟩) l.length cap, .int .i64 p] w fun e w' => e = .returned (decVal p l.length (formAt (l.drop p))) ∧ Below w.heap.size w w' := by
  obtain ⟨R, hR⟩ : ∃ R, formAt (l.drop p) = R := ⟨_, rfl⟩
  rw [hR]
  have HR := Lib.hid hR
  have HC := Lib.hid hcell
  obtain ⟨n, hn⟩ : ∃ n, l.length = n := ⟨_, rfl⟩
  have HN := Lib.hid hn
  rw [hn] at hp hcap hlen ⊢
  obtain ⟨m, hm⟩ : ∃ m, n = p + m := ⟨n - p, by omega⟩
  subst hm
  have hcp : (cap == p) = false := by rw [beq_eq_false_iff_ne]; omega
  have hne : l.drop p ≠ [] := by intro e; have := congrArg List.length e; simp at this; omega
  have HNE := Lib.hid hne
  clear hR hcell hn hne
  go_enter Try.func25, Try.ntmps25
  go_wp2_with fail
  go_loopw [8, 24] (fun r v wr => ∃ (i : Nat) (c : Cur) (acc : Nat), i ≤ m ∧ v = .int .i64 i ∧ r = .int .i32 acc ∧ c.ok ∧ CurAt c w.heap.size wr ∧ Below w.heap.size w wr ∧ Hid (OnDec R (l.drop p) i c acc)) (fun _ v _ => m - (intOf v).toNat)
  case atStart => exact ⟨0, cur0, 0, Nat.zero_le _, rfl, rfl, cur0_ok, (MapKept.heap_alloc w _).1, by go_grown, .inl ⟨rfl, rfl, rfl, HR.out⟩⟩
  case round =>
    obtain ⟨i, c, acc, hi, rfl, rfl, hok, hc, hb, hk⟩ := hrel
    have hw := hb.size
    by_cases hlt : i < m
    · have hpi : p + i < l.length := by rw [HN.out]; omega
      have hx0 := (hb.cell (p := ⟨pb, off + (p + i), none⟩) hpb).trans (HC.out (p + i) hpi)
      obtain ⟨x, hx⟩ : ∃ x, l[p + i] = x := ⟨_, rfl⟩
      rw [hx, ← Nat.add_assoc] at hx0
      have hxd : (l.drop p)[i]? = some x := by rw [List.getElem?_drop, List.getElem?_eq_getElem hpi, hx]
      have HXD := Lib.hid hxd
      have hxl := x.toNat_lt
      clear hx hxd
      have S := step_any c hok x.toNat w.heap.size (by omega) wr hc
      cases hst : stepC c x.toNat with
      | none =>
        have S' : Calls Try.prog 50 #[.pointer (some ⟨w.heap.size, 0, none⟩), .int .u8 x.toNat] wr fun e w' => e = .returned (.bool false) ∧ CurAt c w.heap.size w' ∧ But wr.heap.size w.heap.size wr w' :=
          S.mono fun e w' h => by
            unfold Stepped at h
            rw [hst] at h
            exact h
        have HS := Lib.hid S'
        have HE := Lib.hid (dec_wrong hk.out x HXD.out hst)
        clear S S' hst hk
        go_wp2_with fail
        refine HS.out.mono ?_
        rintro e w1 ⟨rfl, hc', hb1⟩
        go_wp2_with fail
        go_returns
        exact ⟨by rw [HE.out]; rfl, by have hb3 := hb.trans (hb1.below (Nat.le_refl _) hw); go_grown⟩
      | some d =>
        have S' : Calls Try.prog 50 #[.pointer (some ⟨w.heap.size, 0, none⟩), .int .u8 x.toNat] wr fun e w' => e = .returned (.bool true) ∧ CurAt d w.heap.size w' ∧ But wr.heap.size w.heap.size wr w' :=
          S.mono fun e w' h => by
            unfold Stepped at h
            rw [hst] at h
            exact h
        have HS := Lib.hid S'
        have hokd := stepC_ok hok hst
        obtain ⟨hx247, hon⟩ := dec_on hk.out x HXD.out hst
        have hacc := dec_acc hk.out
        clear S S' hst hk
        have HJ := Lib.hid (join_any acc x.toNat hacc hx247)
        rcases hon with ⟨hd0, hR⟩ | ⟨hd1, hon⟩
        · have HRR := Lib.hid hR
          have d0 : (((d.left : Nat) : Int) == 0) = true := by rw [hd0]; rfl
          clear hR hd0
          go_wp2_with fail
          refine HS.out.mono ?_
          rintro e w1 ⟨rfl, hc', hb1⟩
          have hc0' : w1.cell? ⟨w.heap.size, 0, none⟩ = some (.int .i64 d.left) := by rw [cell_of_block hc']; rfl
          go_wp2_with fail
          refine (HJ.out _).mono ?_
          rintro e w2 ⟨rfl, rfl⟩
          go_wp2_with fail
          go_returns
          exact ⟨by rw [HRR.out]; rfl, hb.trans (hb1.below (Nat.le_refl _) hw)⟩
        · have d0 : (((d.left : Nat) : Int) == 0) = false := by rw [beq_eq_false_iff_ne]; omega
          have HON := Lib.hid hon
          clear hon
          go_wp2_with fail
          refine HS.out.mono ?_
          rintro e w1 ⟨rfl, hc', hb1⟩
          have hc0' : w1.cell? ⟨w.heap.size, 0, none⟩ = some (.int .i64 d.left) := by rw [cell_of_block hc']; rfl
          go_wp2_with fail
          refine (HJ.out _).mono ?_
          rintro e w2 ⟨rfl, rfl⟩
          go_wp2_with fail
          go_roundw
          case rel => exact ⟨i + 1, d, joinN acc x.toNat, by omega, by go_num, rfl, hokd, hc', hb.trans (hb1.below (Nat.le_refl _) hw), HON⟩
          case measure => simp [intOf]; omega
    · obtain rfl : i = m := by omega
      have hdl : (l.drop p).length = i := by rw [List.length_drop, HN.out]; omega
      have hk2 := hk.out
      have HE := Lib.hid (dec_end (by rw [hdl]; exact hk2) HNE.out)
      clear hk hk2 hdl
      go_wp2_with fail
      go_returns
      exact ⟨by rw [HE.out]; rfl, hb⟩
end Go.Proofs.Ytjbhehkkigopmaa
