/- The contracts of utf's Feeder, more: New, Place, Held, End. -/
import Derived.Test.YtjbhehkkigopmaaUtfFeed
import Derived.Deep.RegionHeld3
namespace Go.Proofs.Ytjbhehkkigopmaa
open Go.RowKit Go.Joins Go.Lib

theorem wrongAs_congr (n : Nat) (b : Bool) (c d : Cur) (h : 0 < c.left ↔ 0 < d.left) : wrongAs (n, b, d) = wrongAs (n, b, c) := by
  unfold wrongAs
  simp only
  cases b
  · by_cases h1 : 0 < c.left
    · simp [h1, h.1 h1]
    · have h2 : ¬ 0 < d.left := fun h2 => h1 (h.2 h2)
      simp [h1, h2]
  · rfl

theorem new_any (w : World) : Calls Try.prog 40 #[] w fun e w' => e = .returned (.pointer (some ⟨w.heap.size, 0, none⟩)) ∧ FeedBlk w.heap.size 0 0 0 0 0 false w' ∧ Below w.heap.size w w' ∧ w'.heap.size = w.heap.size + 1 := by
  go_enter Try.func40, Try.ntmps40
  go_wp2
  go_ret
  exact ⟨rfl, (MapKept.heap_alloc w _).1, by go_grown, by simp⟩

theorem place_any (F f0 f1 f2 held taken : Nat) (wrong : Bool) (w : World) (hF : FeedBlk F f0 f1 f2 held taken wrong w) :
    Calls Try.prog 44 #[.pointer (some ⟨F, 0, none⟩)] w fun e w' => e = .returned (.int .i64 taken) ∧ w = w' := by
  have c4 : w.cell? ⟨F, 4, none⟩ = some (.int .i64 taken) := by unfold FeedBlk at hF; rw [cell_of_block hF]; rfl
  clear hF
  go_enter Try.func44, Try.ntmps44
  go_wp2
  go_ret
  exact ⟨rfl, rfl⟩
theorem heldc_any (F f0 f1 f2 held taken : Nat) (wrong : Bool) (w : World) (hF : FeedBlk F f0 f1 f2 held taken wrong w) :
    Calls Try.prog 45 #[.pointer (some ⟨F, 0, none⟩)] w fun e w' => e = .returned (.int .i64 held) ∧ w = w' := by
  have c3 : w.cell? ⟨F, 3, none⟩ = some (.int .i64 held) := by unfold FeedBlk at hF; rw [cell_of_block hF]; rfl
  clear hF
  go_enter Try.func45, Try.ntmps45
  go_wp2
  go_ret
  exact ⟨rfl, rfl⟩

theorem FeedBlk.keep {F f0 f1 f2 held taken B : Nat} {wrong : Bool} {w w' : World} (h : FeedBlk F f0 f1 f2 held taken wrong w) (hb : Below B w w') (hF : F < B) : FeedBlk F f0 f1 f2 held taken wrong w' := (hb.block F hF).trans h
theorem FeedBlk.lt {F f0 f1 f2 held taken : Nat} {wrong : Bool} {w : World} (h : FeedBlk F f0 f1 f2 held taken wrong w) : F < w.heap.size := (Array.getElem?_eq_some_iff.1 h).1

set_option maxRecDepth 100000 in
set_option maxHeartbeats 4000000 in
theorem end_blk (F f0 f1 f2 held taken : Nat) (wrong : Bool) (w : World) (hF : FeedBlk F f0 f1 f2 held taken wrong w) (tl : List UInt8) (c : Cur) (hh : held = tl.length) (ht : TailAt f0 f1 f2 tl) (hk : Kept tl c) :
    Calls Try.prog 43 #[.pointer (some ⟨F, 0, none⟩)] w fun e w' => e = .returned (wrongAs (taken, wrong, c)) ∧ Below w.heap.size w w' := by
  have HCur := Lib.hid (fun w hF => cursor_any F f0 f1 f2 held taken wrong w hF tl c hh ht hk)
  have hlt := hF.lt
  have c4 : w.cell? ⟨F, 4, none⟩ = some (.int .i64 taken) := by unfold FeedBlk at hF; rw [cell_of_block hF]; rfl
  have c5 : w.cell? ⟨F, 5, none⟩ = some (.bool wrong) := by unfold FeedBlk at hF; rw [cell_of_block hF]; rfl
  have HF := Lib.hid hF
  clear hF hh ht hk
  go_enter Try.func43, Try.ntmps43
  go_wp2_with fail
  go_region_held3 (fun w' => Below w.heap.size w w' ∧ FeedBlk F f0 f1 f2 held taken wrong w' ∧ w'.cell? ⟨F, 4, none⟩ = some (.int .i64 taken) ∧ w'.cell? ⟨F, 5, none⟩ = some (.bool wrong))
    (first
      | exact ⟨(Below.refl _ w).drew, HF.out, c4, c5⟩
      | assumption
      | (rename Below _ _ _ ∧ _ => hS
         exact ⟨hS.1.trans (hg.mono hS.1.size), hS.2.1.keep hg (Nat.lt_of_lt_of_le hlt hS.1.size), (hg.cell (p := ⟨F, 4, none⟩) (Nat.lt_of_lt_of_le hlt hS.1.size)).trans hS.2.2.1, (hg.cell (p := ⟨F, 5, none⟩) (Nat.lt_of_lt_of_le hlt hS.1.size)).trans hS.2.2.2⟩))
    (first
      | (go_at_call 61; rename Below _ _ _ ∧ _ => hS; refine (HCur.out _ hS.2.1).mono ?_; rintro e w' ⟨d, rfl, hok, hkd, hiff, hg⟩)
      | (go_at_call 62; refine (fault_any taken wrong d.left d.least d.most _).mono ?_; rintro e w' ⟨rfl, hg⟩))
  go_wp2_with fail
  go_ret
  rename Below _ _ _ ∧ _ => hS
  exact ⟨congrArg Ending.returned (wrongAs_congr taken wrong c d hiff), hS.1⟩

/-- How a feeder stands behind bytes. -/
def FSt (came : List UInt8) (f0 f1 f2 held taken : Nat) (wrong : Bool) : Prop :=
  (wrong = true ∧ held = 0 ∧ feedS came [] cur0 = none ∧ taken = (chk came 0 cur0).1) ∨
  (wrong = false ∧ taken = came.length ∧ ∃ tl c, feedS came [] cur0 = some (tl, c) ∧ held = tl.length ∧ TailAt f0 f1 f2 tl)
def FeederAt (F : Nat) (came : List UInt8) (w : World) : Prop := ∃ (f0 f1 f2 held taken : Nat) (wrong : Bool), FeedBlk F f0 f1 f2 held taken wrong w ∧ FSt came f0 f1 f2 held taken wrong

theorem chk_append_wrong (a b : List UInt8) (i : Nat) (c : Cur) (h : (chk a i c).2.1 = true) : chk (a ++ b) i c = chk a i c := by
  induction a generalizing i c with
  | nil => simp [chk] at h
  | cons x t ih =>
    rw [List.cons_append]
    cases hs : stepC c x.toNat with
    | none => rw [chk_wrong _ _ _ _ hs, chk_wrong _ _ _ _ hs]
    | some d =>
      rw [chk_on _ _ _ _ _ hs] at h ⊢
      rw [chk_on _ _ _ _ _ hs]
      exact ih _ _ h
theorem chk_append_right (a b : List UInt8) (i : Nat) (c d : Cur) (h : chk a i c = (i + a.length, false, d)) : chk (a ++ b) i c = chk b (i + a.length) d := by
  induction a generalizing i c with
  | nil =>
    simp only [chk, Prod.mk.injEq] at h
    obtain ⟨_, _, rfl⟩ := h
    rfl
  | cons x t ih =>
    rw [List.cons_append]
    cases hs : stepC c x.toNat with
    | none => rw [chk_wrong _ _ _ _ hs] at h; simp at h
    | some e =>
      rw [chk_on _ _ _ _ _ hs] at h ⊢
      have e1 : i + (x :: t).length = i + 1 + t.length := by simp only [List.length_cons]; omega
      rw [e1] at h ⊢
      exact ih _ _ h
/-- One byte more behind what came: it is wrong. -/
theorem feed_wrong {came l : List UInt8} {i : Nat} {tl : List UInt8} {c : Cur} {x : UInt8} (hf : feedS (came ++ l.take i) [] cur0 = some (tl, c)) (hx : l[i]? = some x) (hs : stepC c x.toNat = none) :
    feedS (came ++ l) [] cur0 = none ∧ chk (came ++ l) 0 cur0 = (came.length + i, true, c) := by
  obtain ⟨h1, h2⟩ := List.getElem?_eq_some_iff.1 hx
  have e : came ++ l = (came ++ l.take i) ++ (x :: l.drop (i + 1)) := by
    rw [List.append_assoc]
    congr 1
    conv => lhs; rw [← List.take_append_drop i l, List.drop_eq_getElem_cons h1, h2]
  have hc := (feedS_chk (came ++ l.take i) [] cur0 0).2 tl c hf
  rw [e, feedS_append, hf]
  refine ⟨feedS_wrong _ _ _ _ hs, ?_⟩
  rw [chk_append_right _ _ _ _ _ hc, chk_wrong _ _ _ _ hs, List.length_append, List.length_take]
  congr 1
  omega
theorem feed_take {came l : List UInt8} {i : Nat} {tl : List UInt8} {c : Cur} {x : UInt8} (hf : feedS (came ++ l.take i) [] cur0 = some (tl, c)) (hx : l[i]? = some x) : feedS (came ++ l.take (i + 1)) [] cur0 = feedS [x] tl c := by
  obtain ⟨h1, h2⟩ := List.getElem?_eq_some_iff.1 hx
  rw [List.take_succ_eq_append_getElem h1, h2, ← List.append_assoc, feedS_append, hf]

theorem But.step {b K B C : Nat} {u w w' : World} (h : But b K u w) (k : But B C w w') (hC : b ≤ C) (hB : b ≤ B) : But b K u w' :=
  ⟨k.os.trans h.os, k.tape.trans h.tape, k.output.trans h.output, Nat.le_trans h.size k.size, fun i hi hn => (k.block i (by omega) (by omega)).trans (h.block i hi hn)⟩
theorem But.belowd {b K B : Nat} {u w w' : World} (h : But b K u w) (k : Below B w w') (hB : b ≤ B) : But b K u w' :=
  ⟨k.os.trans h.os, k.tape.trans h.tape, k.output.trans h.output, Nat.le_trans h.size k.size, fun i hi hn => (k.block i (by omega)).trans (h.block i hi hn)⟩

/-- What a feeder that is fed answers. -/
def feedVal (came : List UInt8) : Value := if (chk came 0 cur0).2.1 = true then .iface 81 (.agg #[.int .i64 30, .int .i64 ((chk came 0 cur0).1 : Nat)]) else .nilIface
theorem feedVal_wrong {came : List UInt8} {n : Nat} {c : Cur} (h : chk came 0 cur0 = (n, true, c)) : feedVal came = wrongAs (n, true, cur0) := by
  unfold feedVal wrongAs
  rw [h]
  simp
theorem feedVal_right {came tl : List UInt8} {c : Cur} (h : feedS came [] cur0 = some (tl, c)) : feedVal came = .nilIface := by
  have hc := (feedS_chk came [] cur0 0).2 tl c h
  unfold feedVal
  rw [hc]
  rfl

theorem kept_alike {tl : List UInt8} {c1 c2 : Cur} (h1 : Kept tl c1) (h2 : Kept tl c2) : c1 = c2 ∨ (c1.left = 0 ∧ c2.left = 0) := by
  rcases h1 with ⟨rfl, h1⟩ | ⟨k1, _, _, k4⟩
  · rcases h2 with ⟨_, h2⟩ | ⟨h2, _⟩
    · exact .inr ⟨h1, h2⟩
    · exact absurd rfl h2
  · rcases h2 with ⟨h2, _⟩ | ⟨_, _, _, j4⟩
    · exact absurd h2 k1
    · rw [k4] at j4
      simp only [Prod.mk.injEq] at j4
      exact .inl j4.2.2
theorem step_alike {c1 c2 : Cur} (h : c1 = c2 ∨ (c1.left = 0 ∧ c2.left = 0)) (x : Nat) : (stepC c2 x = none → stepC c1 x = none) ∧ (∀ d2, stepC c2 x = some d2 → ∃ d1, stepC c1 x = some d1 ∧ (d1.left = 0 ↔ d2.left = 0) ∧ (0 < d2.left → d1 = d2)) := by
  rcases h with rfl | ⟨h1, h2⟩
  · exact ⟨fun h => h, fun d2 h => ⟨d2, h, Iff.rfl, fun _ => rfl⟩⟩
  · rw [stepC_at0 c1 h1, stepC_at0 c2 h2]
    by_cases k1 : x < 128
    · rw [if_pos k1, if_pos k1]
      refine ⟨(fun h => by cases h), fun d2 h => ⟨c1, rfl, ?_, ?_⟩⟩
      · cases h; omega
      · cases h; omega
    · rw [if_neg k1, if_neg k1]
      by_cases k2 : x < 194 ∨ 244 < x
      · rw [if_pos k2]
        exact ⟨fun h => h, (fun d2 h => by cases h)⟩
      · rw [if_neg k2]
        exact ⟨fun h => h, fun d2 h => ⟨d2, h, Iff.rfl, fun _ => rfl⟩⟩
/-- One byte more, by the cursor at hand. -/
theorem feed_next {came l : List UInt8} {i : Nat} {tl : List UInt8} {c1 c2 : Cur} {x : UInt8} (hf : feedS (came ++ l.take i) [] cur0 = some (tl, c1)) (h2 : Kept tl c2) (hx : l[i]? = some x) :
    (stepC c2 x.toNat = none → feedS (came ++ l) [] cur0 = none ∧ ∃ c, chk (came ++ l) 0 cur0 = (came.length + i, true, c)) ∧
    (∀ d2, stepC c2 x.toNat = some d2 → (d2.left = 0 → ∃ c, feedS (came ++ l.take (i + 1)) [] cur0 = some ([], c)) ∧ (¬ d2.left = 0 → (∃ c, feedS (came ++ l.take (i + 1)) [] cur0 = some (tl ++ [x], c)) ∧ Kept (tl ++ [x]) d2 ∧ tl.length ≤ 2)) := by
  have h1 := kept_feed kept_zero hf
  obtain ⟨a1, a2⟩ := step_alike (kept_alike h1 h2) x.toNat
  refine ⟨fun h => ?_, fun d2 h => ?_⟩
  · obtain ⟨k1, k2⟩ := feed_wrong hf hx (a1 h)
    exact ⟨k1, _, k2⟩
  · obtain ⟨d1, e1, e2, e3⟩ := a2 d2 h
    have ht := feed_take hf hx
    refine ⟨fun h0 => ⟨d1, ?_⟩, fun h0 => ⟨⟨d1, ?_⟩, kept_step h2 x h h0, ?_⟩⟩
    · rw [ht, feedS_whole x [] tl c1 d1 e1 (e2.2 h0)]; rfl
    · rw [ht, feedS_part x [] tl c1 d1 e1 (fun h => h0 (e2.1 h))]; rfl
    · rcases kept_step h2 x h h0 with ⟨k, _⟩ | ⟨_, k1, k2, _⟩
      · simp at k
      · rw [List.length_append, List.length_singleton] at k2
        omega
theorem tail_nil (f0 f1 f2 : Nat) : TailAt f0 f1 f2 [] := ⟨by simp, fun j x h => by simp at h⟩
theorem tail_more {f0 f1 f2 : Nat} {tl : List UInt8} (h : TailAt f0 f1 f2 tl) (x : UInt8) (h2 : tl.length ≤ 2) :
    TailAt (if tl.length = 0 then x.toNat else f0) (if tl.length = 1 then x.toNat else f1) (if tl.length = 2 then x.toNat else f2) (tl ++ [x]) := by
  refine ⟨by rw [List.length_append, List.length_singleton]; omega, fun j y hj => ?_⟩
  by_cases e : j < tl.length
  · rw [List.getElem?_append_left e] at hj
    rcases h.2 j y hj with ⟨rfl, h⟩ | ⟨rfl, h⟩ | ⟨rfl, h⟩
    · rw [if_neg (by omega)]; exact .inl ⟨rfl, h⟩
    · rw [if_neg (show ¬ tl.length = 1 by omega)]; exact .inr (.inl ⟨rfl, h⟩)
    · omega
  · rw [List.getElem?_append_right (by omega)] at hj
    have e2 : j - tl.length = 0 := by
      have := (List.getElem?_eq_some_iff.1 hj).1
      simp at this
      omega
    rw [e2] at hj
    simp only [List.getElem?_cons_zero, Option.some.injEq] at hj
    subst hj
    have e3 : j = tl.length := by omega
    subst e3
    have : tl.length = 0 ∨ tl.length = 1 ∨ tl.length = 2 := by omega
    rcases this with h0 | h0 | h0
    · rw [if_pos h0]; exact .inl ⟨h0, rfl⟩
    · rw [if_pos h0]; exact .inr (.inl ⟨h0, rfl⟩)
    · rw [if_pos h0]; exact .inr (.inr ⟨h0, rfl⟩)

def FeedOut (F : Nat) (came : List UInt8) (w : World) (e : Ending) (w' : World) : Prop := e = .returned (feedVal came) ∧ FeederAt F came w' ∧ But w.heap.size F w w'

set_option maxRecDepth 100000 in
set_option maxHeartbeats 8000000 in
theorem feed_any (F : Nat) (came : List UInt8) (p : Option Addr) (cap : Nat) (l : List UInt8) (w : World) (hF : FeederAt F came w) (hB : Bytes w.heap.size F p l w) (hlen : came.length + l.length ≤ 140737488351232) :
    Calls Try.prog 42 #[.pointer (some ⟨F, 0, none⟩), .slice p l.length cap] w (FeedOut F (came ++ l) w) := by
  obtain ⟨f0, f1, f2, held, taken, wrong, hblk, hst⟩ := hF
  have hlt := hblk.lt
  have hblk' := hblk
  unfold FeedBlk at hblk'
  have c5 : w.cell? ⟨F, 5, none⟩ = some (.bool wrong) := by rw [cell_of_block hblk']; rfl
  obtain ⟨n, hn⟩ : ∃ n, l.length = n := ⟨_, rfl⟩
  have HN := Lib.hid hn
  rcases hst with ⟨rfl, rfl, hnone, htk⟩ | ⟨rfl, rfl, tl, c, hsome, hheld, htail⟩
  · have HE := Lib.hid (end_blk F f0 f1 f2 0 taken true w hblk [] cur0 rfl ⟨by simp, fun j x h => by simp at h⟩ kept_zero)
    have hw1 := (feedS_chk came [] cur0 0).1.1 hnone
    have hcw := chk_append_wrong came l 0 cur0 hw1
    have hval : feedVal (came ++ l) = wrongAs (taken, true, cur0) := by
      rw [htk]
      refine feedVal_wrong (c := (chk came 0 cur0).2.2) ?_
      rw [hcw, ← hw1]
    have hfs : FSt (came ++ l) f0 f1 f2 0 taken true := .inl ⟨rfl, rfl, by rw [feedS_append, hnone], by rw [hcw]; exact htk⟩
    rw [hn]
    have HV := Lib.hid hval
    have HFS := Lib.hid hfs
    have HBL := Lib.hid hblk
    clear hblk hblk' htk hw1 hcw hval hfs hnone hn hB hlen
    go_enter Try.func42, Try.ntmps42
    go_wp2_with fail
    refine HE.out.mono ?_
    rintro e w1 ⟨rfl, hb1⟩
    go_wp2_with fail
    go_ret
    exact ⟨by rw [HV.out]; rfl, ⟨f0, f1, f2, 0, taken, true, HBL.out.keep hb1 hlt, HFS.out⟩, But.of hb1⟩
  · have HCur := Lib.hid (cursor_any F f0 f1 f2 held came.length false w hblk tl c hheld htail (kept_feed kept_zero hsome))
    have HBL := Lib.hid hblk
    have HS0 := Lib.hid hsome
    have HT0 := Lib.hid htail
    have HH0 := Lib.hid hheld
    have HBy := Lib.hid hB
    obtain ⟨m, hm⟩ : ∃ m, came.length = m := ⟨_, rfl⟩
    have HM := Lib.hid hm
    rw [hn, hm] at hlen
    rw [hm] at HBL
    rw [hn]
    clear hblk hblk' hsome htail hheld hB hn hm
    go_enter Try.func42, Try.ntmps42
    go_wp2_with fail
    refine HCur.out.mono ?_
    rintro e w1 ⟨d, rfl, hok, hkd, hiff, hb1⟩
    have s1 := hb1.size
    go_wp2_with fail
    go_loopw [21] (fun v wr => ∃ (i g0 g1 g2 : Nat) (tl' : List UInt8) (c1 c2 : Cur), i ≤ n ∧ v = .int .i64 i ∧ FeedBlk F g0 g1 g2 tl'.length (m + i) false wr ∧ CurAt c2 w1.heap.size wr ∧ c2.ok ∧ Hid (Kept tl' c2) ∧ TailAt g0 g1 g2 tl' ∧ But w.heap.size F w wr ∧ Hid (feedS (came ++ l.take i) [] cur0 = some (tl', c1)))
      (fun v _ => n - (intOf v).toNat)
    case atStart =>
      refine ⟨0, f0, f1, f2, tl, c, d, Nat.zero_le _, rfl, ?_, (MapKept.heap_alloc w1 _).1, hok, hkd, HT0.out, (But.of hb1).belowd ((Below.refl w.heap.size w1).alloc s1 _) (Nat.le_refl _), ?_⟩
      · have h := HBL.out.keep (hb1.alloc s1 (.cells #[.int .i64 d.left, .int .u8 d.least, .int .u8 d.most] 91)) hlt
        rw [HH0.out] at h
        exact h
      · refine Lib.hid ?_
        rw [List.take_zero, List.append_nil]
        exact HS0.out
    case round =>
      obtain ⟨i, g0, g1, g2, tl', c1, c2, hi, rfl, hfb, hc, hok2, hkp, hta, hbut, hfs⟩ := hrel
      have hsz : w1.heap.size < wr.heap.size := (Array.getElem?_eq_some_iff.1 hc).1
      by_cases hlt2 : i < n
      · have hil : i < l.length := by rw [HN.out]; exact hlt2
        obtain ⟨pb, off, rfl, hpb, hpF, hcell⟩ := HBy.out (by intro e; rw [e] at hil; simp at hil)
        have hx0 := (hbut.cell (p := ⟨pb, off + i, none⟩) hpb hpF).trans (hcell i hil)
        have hx1 : l[i]? = some l[i] := List.getElem?_eq_getElem hil
        obtain ⟨x, hxe⟩ : ∃ x, l[i] = x := ⟨_, rfl⟩
        rw [hxe] at hx0 hx1
        obtain ⟨n1, n2⟩ := feed_next hfs.out hkp.out hx1
        have hxl := x.toNat_lt
        have S := step_any c2 hok2 x.toNat w1.heap.size (by omega) wr hc
        cases hst : stepC c2 x.toNat with
        | none =>
          obtain ⟨k1, c3, k2⟩ := n1 hst
          have S' : Calls Try.prog 50 #[.pointer (some ⟨w1.heap.size, 0, none⟩), .int .u8 x.toNat] wr fun e w' => e = .returned (.bool false) ∧ CurAt c2 w1.heap.size w' ∧ But wr.heap.size w1.heap.size wr w' :=
            S.mono fun e w' h => by
              unfold Stepped at h
              rw [hst] at h
              exact h
          have HS := Lib.hid S'
          have HK1 := Lib.hid k1
          have HK2 := Lib.hid k2
          have HFB := Lib.hid hfb
          have HTA := Lib.hid hta
          clear S S' hst k1 k2 n1 n2 hcell hx1 hxe hfb hta
          go_wp2_with fail
          refine HS.out.mono ?_
          rintro e w2 ⟨rfl, hc', hb2⟩
          have hfb2 : FeedBlk F g0 g1 g2 tl'.length (m + i) false w2 := (hb2.block F (by omega) (by omega)).trans HFB.out
          have HFB2 := Lib.hid hfb2
          unfold FeedBlk at hfb2
          have q5 : w2.cell? ⟨F, 5, none⟩ = some (.bool false) := by rw [cell_of_block hfb2]; rfl
          have q3 : w2.cell? ⟨F, 3, none⟩ = some (.int .i64 tl'.length) := by rw [cell_of_block hfb2]; rfl
          have r5 : w2.frozen? ⟨F, 5, none⟩ = false := unfrozen_of_block hfb2 5
          have r3 : w2.frozen? ⟨F, 3, none⟩ = false := unfrozen_of_block hfb2 3
          clear hfb2
          have hfin : FeedBlk F g0 g1 g2 0 (m + i) true ((w2.setCell ⟨F, 5, none⟩ (.bool true)).setCell ⟨F, 3, none⟩ (.int .i64 0)) := row_set (i := 3) (row_set (i := 5) HFB2.out (.bool true)) (.int .i64 0)
          have HE := Lib.hid (end_blk F g0 g1 g2 0 (m + i) true _ hfin [] cur0 rfl (tail_nil g0 g1 g2) kept_zero)
          have HFin := Lib.hid hfin
          clear hfin
          go_wp2_with fail
          refine HE.out.mono ?_
          rintro e w4 ⟨rfl, hb4⟩
          go_wp2_with fail
          go_ret
          have hk2 := HK2.out
          rw [HM.out] at hk2
          refine ⟨by rw [feedVal_wrong hk2]; rfl, ⟨g0, g1, g2, 0, m + i, true, HFin.out.keep hb4 HFin.out.lt, .inl ⟨rfl, rfl, HK1.out, by rw [hk2]⟩⟩, ?_⟩
          exact (((hbut.step hb2 (by omega) (by omega)).set (p := ⟨F, 5, none⟩) (.inl rfl) _).set (p := ⟨F, 3, none⟩) (.inl rfl) _).belowd hb4 (by simp [World.setCell]; have := hb2.size; omega)
        | some f =>
          obtain ⟨n3, n4⟩ := n2 f hst
          have S' : Calls Try.prog 50 #[.pointer (some ⟨w1.heap.size, 0, none⟩), .int .u8 x.toNat] wr fun e w' => e = .returned (.bool true) ∧ CurAt f w1.heap.size w' ∧ But wr.heap.size w1.heap.size wr w' :=
            S.mono fun e w' h => by
              unfold Stepped at h
              rw [hst] at h
              exact h
          have HS := Lib.hid S'
          have hokf := stepC_ok hok2 hst
          have HFB := Lib.hid hfb
          have HTA := Lib.hid hta
          clear S S' hst n1 n2 hcell hx1 hxe hfb hta
          by_cases hf0 : f.left = 0
          · obtain ⟨c3, k3⟩ := n3 hf0
            have HK3 := Lib.hid k3
            have e0 : (((f.left : Nat) : Int) == 0) = true := by rw [hf0]; rfl
            have HF0 := Lib.hid hf0
            clear n3 n4 k3 hf0
            go_wp2_with fail
            refine HS.out.mono ?_
            rintro e w2 ⟨rfl, hc', hb2⟩
            have hfb2 : FeedBlk F g0 g1 g2 tl'.length (m + i) false w2 := (hb2.block F (by omega) (by omega)).trans HFB.out
            have HFB2 := Lib.hid hfb2
            unfold FeedBlk at hfb2
            have q4 : w2.cell? ⟨F, 4, none⟩ = some (.int .i64 ((m : Int) + (i : Int))) := by rw [cell_of_block hfb2]; simp
            have q3 : w2.cell? ⟨F, 3, none⟩ = some (.int .i64 tl'.length) := by rw [cell_of_block hfb2]; rfl
            have r4 : w2.frozen? ⟨F, 4, none⟩ = false := unfrozen_of_block hfb2 4
            have r3 : w2.frozen? ⟨F, 3, none⟩ = false := unfrozen_of_block hfb2 3
            have z0 : w2.cell? ⟨w1.heap.size, 0, none⟩ = some (.int .i64 f.left) := by unfold CurAt at hc'; rw [cell_of_block hc']; rfl
            have hcF : CurAt f w1.heap.size ((w2.setCell ⟨F, 4, none⟩ (.int .i64 ((m : Int) + (i : Int) + 1))).setCell ⟨F, 3, none⟩ (.int .i64 0)) :=
              (Below.heap_setCell _ ⟨F, 3, none⟩ _ w1.heap.size (show w1.heap.size ≠ F by omega)).trans ((Below.heap_setCell _ ⟨F, 4, none⟩ _ w1.heap.size (show w1.heap.size ≠ F by omega)).trans hc')
            have HCF := Lib.hid hcF
            clear hfb2 hcF
            go_wp2_with fail
            go_roundw
            case rel =>
              refine ⟨i + 1, g0, g1, g2, [], c3, f, by omega, by go_num, ?_, HCF.out, hokf, .inl ⟨rfl, HF0.out⟩, tail_nil _ _ _, ((hbut.step hb2 (by omega) (by omega)).set (p := ⟨F, 4, none⟩) (.inl rfl) _).set (p := ⟨F, 3, none⟩) (.inl rfl) _, HK3⟩
              have h := row_set (i := 3) (row_set (i := 4) HFB2.out (.int .i64 ((m : Int) + (i : Int) + 1))) (.int .i64 0)
              exact h
            case measure => simp [intOf]; omega
          · obtain ⟨⟨c3, k3⟩, k4, k5⟩ := n4 hf0
            have HK3 := Lib.hid k3
            have HK4 := Lib.hid k4
            have hta2 := tail_more HTA.out x k5
            have e0 : (((f.left : Nat) : Int) == 0) = false := by rw [beq_eq_false_iff_ne]; omega
            have hlen2 : (tl' ++ [x]).length = tl'.length + 1 := by rw [List.length_append, List.length_singleton]
            have HL2 := Lib.hid hlen2
            obtain ⟨k, hk⟩ : ∃ k, tl'.length = k := ⟨_, rfl⟩
            rw [hk] at hta2 k5 HFB HL2
            have hk3 : k = 0 ∨ k = 1 ∨ k = 2 := by omega
            have HTA2 := Lib.hid hta2
            clear n3 n4 k3 k4 hta2 hlen2 hk hf0
            rcases hk3 with rfl | rfl | rfl
            · go_wp2_with fail
              refine HS.out.mono ?_
              rintro e w2 ⟨rfl, hc', hb2⟩
              have hfb2 : FeedBlk F g0 g1 g2 0 (m + i) false w2 := (hb2.block F (by omega) (by omega)).trans HFB.out
              have HFB2 := Lib.hid hfb2
              unfold FeedBlk at hfb2
              have q4 : w2.cell? ⟨F, 4, none⟩ = some (.int .i64 ((m : Int) + (i : Int))) := by rw [cell_of_block hfb2]; simp
              have q3 : w2.cell? ⟨F, 3, none⟩ = some (.int .i64 0) := by rw [cell_of_block hfb2]; rfl
              have q0 : w2.cell? ⟨F, 0, none⟩ = some (.int .u8 g0) := by rw [cell_of_block hfb2]; rfl
              have r4 : w2.frozen? ⟨F, 4, none⟩ = false := unfrozen_of_block hfb2 4
              have r3 : w2.frozen? ⟨F, 3, none⟩ = false := unfrozen_of_block hfb2 3
              have r0 : w2.frozen? ⟨F, 0, none⟩ = false := unfrozen_of_block hfb2 0
              have z0 : w2.cell? ⟨w1.heap.size, 0, none⟩ = some (.int .i64 f.left) := by unfold CurAt at hc'; rw [cell_of_block hc']; rfl
              have hcF : CurAt f w1.heap.size (((w2.setCell ⟨F, 4, none⟩ (.int .i64 ((m : Int) + (i : Int) + 1))).setCell ⟨F, 0, none⟩ (.int .u8 x.toNat)).setCell ⟨F, 3, none⟩ (.int .i64 1)) :=
                (Below.heap_setCell _ ⟨F, 3, none⟩ _ w1.heap.size (show w1.heap.size ≠ F by omega)).trans ((Below.heap_setCell _ ⟨F, 0, none⟩ _ w1.heap.size (show w1.heap.size ≠ F by omega)).trans ((Below.heap_setCell _ ⟨F, 4, none⟩ _ w1.heap.size (show w1.heap.size ≠ F by omega)).trans hc'))
              have HCF := Lib.hid hcF
              clear hfb2 hcF
              go_wp2_with fail
              go_region
              go_wp2_with fail
              go_roundw
              case rel =>
                refine ⟨i + 1, x.toNat, g1, g2, tl' ++ [x], c3, f, by omega, by go_num, ?_, HCF.out, hokf, HK4, by have h := HTA2.out; simpa using h, (((hbut.step hb2 (by omega) (by omega)).set (p := ⟨F, 4, none⟩) (.inl rfl) _).set (p := ⟨F, 0, none⟩) (.inl rfl) _).set (p := ⟨F, 3, none⟩) (.inl rfl) _ |>.drew, HK3⟩
                have h := row_set (i := 3) (row_set (i := 0) (row_set (i := 4) HFB2.out (.int .i64 ((m : Int) + (i : Int) + 1))) (.int .u8 x.toNat)) (.int .i64 1)
                rw [HL2.out]
                exact h
              case measure => simp [intOf]; omega
            · go_wp2_with fail
              refine HS.out.mono ?_
              rintro e w2 ⟨rfl, hc', hb2⟩
              have hfb2 : FeedBlk F g0 g1 g2 1 (m + i) false w2 := (hb2.block F (by omega) (by omega)).trans HFB.out
              have HFB2 := Lib.hid hfb2
              unfold FeedBlk at hfb2
              have q4 : w2.cell? ⟨F, 4, none⟩ = some (.int .i64 ((m : Int) + (i : Int))) := by rw [cell_of_block hfb2]; simp
              have q3 : w2.cell? ⟨F, 3, none⟩ = some (.int .i64 1) := by rw [cell_of_block hfb2]; rfl
              have q0 : w2.cell? ⟨F, 1, none⟩ = some (.int .u8 g1) := by rw [cell_of_block hfb2]; rfl
              have r4 : w2.frozen? ⟨F, 4, none⟩ = false := unfrozen_of_block hfb2 4
              have r3 : w2.frozen? ⟨F, 3, none⟩ = false := unfrozen_of_block hfb2 3
              have r0 : w2.frozen? ⟨F, 1, none⟩ = false := unfrozen_of_block hfb2 1
              have z0 : w2.cell? ⟨w1.heap.size, 0, none⟩ = some (.int .i64 f.left) := by unfold CurAt at hc'; rw [cell_of_block hc']; rfl
              have hcF : CurAt f w1.heap.size (((w2.setCell ⟨F, 4, none⟩ (.int .i64 ((m : Int) + (i : Int) + 1))).setCell ⟨F, 1, none⟩ (.int .u8 x.toNat)).setCell ⟨F, 3, none⟩ (.int .i64 2)) :=
                (Below.heap_setCell _ ⟨F, 3, none⟩ _ w1.heap.size (show w1.heap.size ≠ F by omega)).trans ((Below.heap_setCell _ ⟨F, 1, none⟩ _ w1.heap.size (show w1.heap.size ≠ F by omega)).trans ((Below.heap_setCell _ ⟨F, 4, none⟩ _ w1.heap.size (show w1.heap.size ≠ F by omega)).trans hc'))
              have HCF := Lib.hid hcF
              clear hfb2 hcF
              go_wp2_with fail
              go_region
              go_wp2_with fail
              go_roundw
              case rel =>
                refine ⟨i + 1, g0, x.toNat, g2, tl' ++ [x], c3, f, by omega, by go_num, ?_, HCF.out, hokf, HK4, by have h := HTA2.out; simpa using h, (((hbut.step hb2 (by omega) (by omega)).set (p := ⟨F, 4, none⟩) (.inl rfl) _).set (p := ⟨F, 1, none⟩) (.inl rfl) _).set (p := ⟨F, 3, none⟩) (.inl rfl) _ |>.drew, HK3⟩
                have h := row_set (i := 3) (row_set (i := 1) (row_set (i := 4) HFB2.out (.int .i64 ((m : Int) + (i : Int) + 1))) (.int .u8 x.toNat)) (.int .i64 2)
                rw [HL2.out]
                exact h
              case measure => simp [intOf]; omega
            · go_wp2_with fail
              refine HS.out.mono ?_
              rintro e w2 ⟨rfl, hc', hb2⟩
              have hfb2 : FeedBlk F g0 g1 g2 2 (m + i) false w2 := (hb2.block F (by omega) (by omega)).trans HFB.out
              have HFB2 := Lib.hid hfb2
              unfold FeedBlk at hfb2
              have q4 : w2.cell? ⟨F, 4, none⟩ = some (.int .i64 ((m : Int) + (i : Int))) := by rw [cell_of_block hfb2]; simp
              have q3 : w2.cell? ⟨F, 3, none⟩ = some (.int .i64 2) := by rw [cell_of_block hfb2]; rfl
              have q0 : w2.cell? ⟨F, 2, none⟩ = some (.int .u8 g2) := by rw [cell_of_block hfb2]; rfl
              have r4 : w2.frozen? ⟨F, 4, none⟩ = false := unfrozen_of_block hfb2 4
              have r3 : w2.frozen? ⟨F, 3, none⟩ = false := unfrozen_of_block hfb2 3
              have r0 : w2.frozen? ⟨F, 2, none⟩ = false := unfrozen_of_block hfb2 2
              have z0 : w2.cell? ⟨w1.heap.size, 0, none⟩ = some (.int .i64 f.left) := by unfold CurAt at hc'; rw [cell_of_block hc']; rfl
              have hcF : CurAt f w1.heap.size (((w2.setCell ⟨F, 4, none⟩ (.int .i64 ((m : Int) + (i : Int) + 1))).setCell ⟨F, 2, none⟩ (.int .u8 x.toNat)).setCell ⟨F, 3, none⟩ (.int .i64 3)) :=
                (Below.heap_setCell _ ⟨F, 3, none⟩ _ w1.heap.size (show w1.heap.size ≠ F by omega)).trans ((Below.heap_setCell _ ⟨F, 2, none⟩ _ w1.heap.size (show w1.heap.size ≠ F by omega)).trans ((Below.heap_setCell _ ⟨F, 4, none⟩ _ w1.heap.size (show w1.heap.size ≠ F by omega)).trans hc'))
              have HCF := Lib.hid hcF
              clear hfb2 hcF
              go_wp2_with fail
              go_region
              go_wp2_with fail
              go_roundw
              case rel =>
                refine ⟨i + 1, g0, g1, x.toNat, tl' ++ [x], c3, f, by omega, by go_num, ?_, HCF.out, hokf, HK4, by have h := HTA2.out; simpa using h, (((hbut.step hb2 (by omega) (by omega)).set (p := ⟨F, 4, none⟩) (.inl rfl) _).set (p := ⟨F, 2, none⟩) (.inl rfl) _).set (p := ⟨F, 3, none⟩) (.inl rfl) _ |>.drew, HK3⟩
                have h := row_set (i := 3) (row_set (i := 2) (row_set (i := 4) HFB2.out (.int .i64 ((m : Int) + (i : Int) + 1))) (.int .u8 x.toNat)) (.int .i64 3)
                rw [HL2.out]
                exact h
              case measure => simp [intOf]; omega
      · obtain rfl : i = n := by omega
        have hfs2 := hfs.out
        rw [List.take_of_length_le (by rw [HN.out]; exact Nat.le_refl _)] at hfs2
        have HV := Lib.hid (feedVal_right hfs2)
        have HFin : Hid (FeederAt F (came ++ l) wr) := Lib.hid ⟨g0, g1, g2, tl'.length, m + i, false, hfb, .inr ⟨rfl, by rw [List.length_append, HM.out, HN.out], tl', c1, hfs2, rfl, hta⟩⟩
        clear hfs hfs2 hfb hta
        go_wp2_with fail
        go_ret
        exact ⟨by rw [HV.out]; rfl, HFin.out, hbut⟩
end Go.Proofs.Ytjbhehkkigopmaa
