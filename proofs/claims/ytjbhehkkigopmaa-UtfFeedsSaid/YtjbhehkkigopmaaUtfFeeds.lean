/- The law UtfFeeds holds: behind each piece that is fed to a feeder, what it tells is what the document's answer says of all that came; what is fed stays, and is not kept. Of more than 3000 pieces, and of more than 2^31 - 1 bytes, the law asks nothing. -/
import Derived.Test.YtjbhehkkigopmaaUtfPieces0
import Derived.Test.YtjbhehkkigopmaaRowsB
import Derived.Test.YtjbhehkkigopmaaRoomy3
import Derived.Lib.Builder
namespace Go.Proofs.Ytjbhehkkigopmaa
open Go.ChangeMaps Go.ChangeShapes Go.WideShapes Go.ChangeAt Go.RowKit Go.Lib Go.Joins

/-- What total comes to: the sum, or a part of it that is too great. -/
def TotalOut (L : Nat → List UInt8) (N : Nat) (e : Ending) : Prop := ∃ t : Nat, e = .returned (.int .i64 t) ∧ ((t ≤ 2147483647 ∧ t = sum8 L N) ∨ 2147483647 < t)

set_option maxRecDepth 100000 in
set_option maxHeartbeats 2000000 in
theorem total_any (p : Option Addr) (N cap : Nat) (P : Nat → Option Addr) (C : Nat → Nat) (L : Nat → List UInt8) (w : World) (hN : N ≤ 140737488351232) (hR : Rowed w.heap.size p N P C L w) :
    Calls Try.prog 39 #[.slice p N cap] w fun e w' => TotalOut L N e ∧ w = w' := by
  have HR := Lib.hid hR
  clear hR
  go_enter Try.func39, Try.ntmps39
  go_wp2_with fail
  go_loop [3, 4] (fun x i => ∃ k : Nat, k ≤ N ∧ x = .int .i64 (sum8 L k) ∧ i = .int .i64 k ∧ sum8 L k ≤ 281474976710656) (fun _ i => N - (RowKit.intOf i).toNat)
  case atStart => exact ⟨0, Nat.zero_le _, rfl, rfl, Nat.zero_le _⟩
  case round =>
    obtain ⟨k, hk, rfl, rfl, hle⟩ := hrel
    by_cases hkN : k < N
    · by_cases hbig : 2147483647 < sum8 L k
      · have e1 : decide ((2147483647 : Int) < (sum8 L k : Int)) = true := decide_eq_true (by omega)
        have HBig := Lib.hid hbig
        clear hbig
        go_wp2_with fail
        refine (beyond_any _ _).mono ?_
        rintro e w1 ⟨rfl, rfl⟩
        go_wp2_with fail
        go_ret
        exact ⟨⟨sum8 L k, rfl, .inr HBig.out⟩, rfl⟩
      · have e1 : decide ((2147483647 : Int) < (sum8 L k : Int)) = false := decide_eq_false (by omega)
        obtain ⟨pb, off, rfl, hpb, hcs⟩ := HR.out.1 (by omega)
        have hcell := hcs k hkN
        have hlk := (HR.out.2 k hkN).2.2
        have hts : sum8 L (k + 1) = sum8 L k + ((L k).length + 1) := rfl
        have HTS := Lib.hid hts
        clear hcs hts
        go_wp2_with fail
        refine (beyond_any _ _).mono ?_
        rintro e w1 ⟨rfl, rfl⟩
        go_wp2_with fail
        go_round
        case rel => exact ⟨k + 1, by omega, by rw [HTS.out]; go_num, by go_num, by rw [HTS.out]; omega⟩
        case measure => simp [RowKit.intOf]; omega
    · obtain rfl : k = N := by omega
      go_wp2_with fail
      go_ret
      exact ⟨⟨sum8 L k, rfl, (Nat.lt_or_ge 2147483647 (sum8 L k)).elim .inr fun h => .inl ⟨h, rfl⟩⟩, rfl⟩

theorem feedVal_facts (came : List UInt8) : ((wrongS came).1 = 30 ∧ feedVal came = .iface 81 (.agg #[.int .i64 30, .int .i64 (wrongS came).2])) ∨ (((wrongS came).1 = 31 ∨ (wrongS came).1 = 0) ∧ feedVal came = .nilIface) := by
  unfold feedVal wrongS
  cases h1 : (chk came 0 cur0).2.1
  · refine .inr ⟨?_, by simp⟩
    by_cases h2 : 0 < (chk came 0 cur0).2.2.left
    · exact .inl (by simp [h2])
    · exact .inr (by simp [h2])
  · exact .inl ⟨by simp, by simp⟩

theorem grown_but {b K : Nat} {w w' : World} (h : But b K w w') (hb : w.heap.size ≤ b) : w.grownBy w' (some K) :=
  ⟨h.os, h.tape, h.output, h.size, fun k hk hn => h.block k (by omega) (fun e => hn (by rw [e]))⟩
theorem grown_below {B : Nat} {w w' : World} (h : Below B w w') (hb : w.heap.size ≤ B) : w.grownBy w' none :=
  ⟨h.os, h.tape, h.output, h.size, fun k hk _ => h.block k (by omega)⟩
theorem FeederAt.blk {F : Nat} {came : List UInt8} {w : World} (h : FeederAt F came w) : ∃ cs, w.heap[F]? = some (.cells cs 107 (0, 0)) := by
  obtain ⟨f0, f1, f2, held, taken, wrong, hblk, _⟩ := h
  exact ⟨_, hblk⟩

theorem FeederAt.grown {F : Nat} {came : List UInt8} {w w' : World} {row : Option Nat} (h : FeederAt F came w) (hg : w.grownBy w' row) (hne : row ≠ some F) : FeederAt F came w' := by
  obtain ⟨f0, f1, f2, held, taken, wrong, hblk, hst⟩ := h
  exact ⟨f0, f1, f2, held, taken, wrong, (hg.block F hblk.lt (fun e => hne e.symm)).trans hblk, hst⟩
/-- The call's own row of bytes is no feeder. -/
theorem row_feeder {F B n : Nat} {came : List UInt8} {w : World} {v : Value} {xs : List Value} (ho : w.ownsRow B 5 1 v n xs) (h : FeederAt F came w) : v.ownBlock ≠ some F := by
  obtain ⟨cs, hb⟩ := h.blk
  exact ownBlock_ne ho hb (by decide)
theorem tells_fed (came : List UInt8) (no : Int) (hno : ((wrongS came).1 = 30 ∧ no = 30) ∨ ((wrongS came).1 ≠ 30 ∧ no = 0)) (w : World) :
    Calls Try.prog 17 #[feedVal came, .int .i64 no, .int .i64 (wrongS came).2] w fun e w' => e = .returned (.bool true) ∧ Below w.heap.size w w' := by
  rcases feedVal_facts came with ⟨h1, h2⟩ | ⟨h1, h2⟩
  · obtain rfl : no = 30 := by omega
    rw [h2]
    exact tells_spot 30 _ (by decide) w
  · obtain rfl : no = 0 := by omega
    rw [h2]
    exact tells_ok _ w

/-- A row of so many cells at least. -/
def Wide (g n : Nat) (w : World) : Prop := ∃ C, w.heap[g]? = some (.cells C 5 (0, 0)) ∧ n ≤ C.size
theorem roomy_wide {g : Nat} {l : List UInt8} {w : World} (h : Roomy g l w) : Wide g l.length w := ⟨_, h, by simp [byteCells]⟩
theorem Wide.cell {g n : Nat} {w : World} (h : Wide g n w) (k : Nat) (hk : k < n) : (∃ v, w.cell? ⟨g, k, none⟩ = some v) ∧ w.frozen? ⟨g, k, none⟩ = false := by
  obtain ⟨C, h1, h2⟩ := h
  exact ⟨⟨_, by rw [cell_of_heap h1]; exact Array.getElem?_eq_getElem (by omega)⟩, frozen_of_heap h1 k⟩
theorem Wide.store {g n : Nat} {w : World} (h : Wide g n w) (k : Nat) (v : Value) : Wide g n (w.setCell ⟨g, k, none⟩ v) := by
  obtain ⟨C, h1, h2⟩ := h
  exact ⟨_, row_set (i := k) h1 v, by simp; exact h2⟩

set_option maxRecDepth 100000 in
set_option maxHeartbeats 4000000 in
theorem utfFeeds_walk (a : Option Addr) (N cap : Nat) (P : Nat → Option Addr) (C : Nat → Nat) (L : Nat → List UInt8) (W : World) (hN : N ≤ 140737488351232) (hR : Rowed W.heap.size a N P C L W) :
    Calls Try.prog 11 #[.slice a N cap] W fun e w' => e = .returned (.bool true) ∧ Below W.heap.size W w' := by
  have HR := Lib.hid hR
  have HTot := Lib.hid (total_any a N cap P C L W hN hR)
  unfold TotalOut at HTot
  clear hR
  go_enter Try.func11, Try.ntmps11
  go_wp2_with fail
  refine HTot.out.mono ?_
  rintro e w1 ⟨⟨t, rfl, ht⟩, rfl⟩
  by_cases hbig : 2147483647 < t
  · have e1 : decide ((2147483647 : Int) < (t : Int)) = true := decide_eq_true (by omega)
    clear ht hbig
    go_wp2_with fail
    refine (beyond_any _ _).mono ?_
    rintro e w1 ⟨rfl, rfl⟩
    go_wp2_with fail
    go_ret
    exact ⟨rfl, Below.refl _ _⟩
  have e1 : decide ((2147483647 : Int) < (t : Int)) = false := decide_eq_false (by omega)
  by_cases hmany : 3000 < N
  · clear ht hbig
    go_wp2_with fail
    refine (beyond_any _ _).mono ?_
    rintro e w1 ⟨rfl, rfl⟩
    go_wp2_with fail
    go_ret
    exact ⟨rfl, Below.refl _ _⟩
  have hsum : Hid (sum8 L N ≤ 2147483647) := Lib.hid (by omega)
  clear ht hbig
  go_wp2_with fail
  refine (beyond_any _ _).mono ?_
  rintro e w1 ⟨rfl, rfl⟩
  go_wp2_with fail
  refine (new_any _).mono ?_
  rintro e w1 ⟨rfl, hf1, hb1, hz1⟩
  have HF1 := Lib.hid (feederAt_new hf1)
  have s1 : W.heap.size < w1.heap.size := by omega
  clear hf1 hz1
  go_wp2_with fail
  refine (stands_any W.heap.size none 0 W.heap.size W.heap.size [] w1 HF1.out (fun h => absurd rfl h) (fun _ => rfl) (by simp) (by omega)).mono ?_
  rintro e w2 ⟨rfl, hb2⟩
  have s2 := hb2.size
  have G2 := Lib.hid (hb1.trans (hb2.mono (by omega)))
  have HF2 := Lib.hid (HF1.out.below hb2 s1)
  clear hb1 hb2
  go_wp2_with fail
  go_loopw [4, 5] (fun vc v wr => ∃ i : Nat, i ≤ N ∧ v = .int .i64 i ∧ wr.ownsRow W.heap.size 5 1 vc (cat L i).length (byteCells (cat L i)) ∧ Hid (FeederAt W.heap.size (cat L i) wr) ∧ Hid (Below W.heap.size W wr) ∧ W.heap.size < wr.heap.size) (fun _ v _ => N - (RowKit.intOf v).toNat)
  case atStart => exact ⟨0, Nat.zero_le _, rfl, World.ownsRow_nil _ _ _ _, HF2, G2, by omega⟩
  case round =>
    obtain ⟨i, hi, rfl, hown, hfa, hg, hsz⟩ := hrel
    by_cases hlt : i < N
    · obtain ⟨pb, off, rfl, hpb, hcs⟩ := HR.out.1 (by omega)
      have hcell := (hg.out.cell (p := ⟨pb, off + i, none⟩) hpb).trans (hcs i hlt)
      have hcw := hcs i hlt
      obtain ⟨hnil, hBi, hli⟩ := HR.out.2 i hlt
      have hsi : sum8 L (i + 1) ≤ 2147483647 := Nat.le_trans (sum8_le L (by omega)) hsum.out
      have hci := sum8_cat L (i + 1)
      have hcat : cat L (i + 1) = cat L i ++ L i := rfl
      have hcl : (cat L (i + 1)).length = (cat L i).length + (L i).length := by rw [hcat, List.length_append]
      obtain ⟨q, hq⟩ : ∃ q, P i = q := ⟨_, rfl⟩
      obtain ⟨cq, hcq⟩ : ∃ cq, C i = cq := ⟨_, rfl⟩
      obtain ⟨l, hl⟩ : ∃ l, L i = l := ⟨_, rfl⟩
      obtain ⟨came, hcame⟩ : ∃ came, cat L i = came := ⟨_, rfl⟩
      rw [hq, hcq, hl] at hnil
      rw [hq, hl] at hBi
      rw [hq, hcq, hl] at hcell hcw
      rw [hl] at hli hcat hcl
      rw [hcame] at hcat hcl hown hfa
      have HBi := Lib.hid hBi
      have HNil := Lib.hid hnil
      have HCat := Lib.hid hcat
      have hlen2 : came.length + l.length ≤ 2147483647 := by omega
      obtain ⟨n, hn⟩ : ∃ n, l.length = n := ⟨_, rfl⟩
      have HLn := Lib.hid hn
      obtain ⟨m, hm⟩ : ∃ m, came.length = m := ⟨_, rfl⟩
      have HMn := Lib.hid hm
      have HOwn := Lib.hid hown
      rw [hm] at HOwn
      have HRoom := Lib.hid (roomy_any q cq l wr ((HBi.out.keep hg.out).at (by omega) (by omega)) (by omega))
      rw [hn] at HRoom hcell hcw hlen2
      have HCW := Lib.hid hcw
      rw [hm] at hlen2
      clear hcs hcw hnil hBi hli hsi hci hcat hcl hq hcq hl hcame hn hm hown
      go_wp2_with fail
      refine HRoom.out.mono ?_
      rintro e w3 ⟨rfl, hro, hb3⟩
      have s3 : wr.heap.size < w3.heap.size := (Array.getElem?_eq_some_iff.1 hro).1
      have HRo := Lib.hid hro
      have HF3 := Lib.hid (hfa.out.below hb3 hsz)
      have G3 := Lib.hid (hg.out.trans (hb3.mono (by omega)))
      have HO3 := Lib.hid (ownsRow_below HOwn.out hb3 (Nat.le_refl _))
      have hoB := fun k hk => (HOwn.out.lt k hk).2
      have HOB := Lib.hid hoB
      have HFeed := Lib.hid (feed_any W.heap.size came (some ⟨wr.heap.size, 0, none⟩) (l.length + 3) l w3 HF3.out (roomy_bytes HRo.out s3 (by omega)) (by rw [HMn.out, HLn.out]; omega))
      rw [HLn.out] at HFeed
      unfold FeedOut at HFeed
      clear hro hb3 hoB
      go_wp2_with fail
      refine HFeed.out.mono ?_
      rintro e w4 ⟨rfl, hf4, k4⟩
      have s4 := k4.size
      have G4 := Lib.hid (G3.out.trans (k4.below (Nat.le_refl _) (by omega)))
      have HF4 := Lib.hid hf4
      have HO4 := Lib.hid (HO3.out.kept (grown_but k4 (Nat.le_refl _)) (.inr (row_feeder HO3.out HF3.out)))
      have hro4 : Roomy wr.heap.size l w4 := (k4.block _ s3 (by omega)).trans HRo.out
      have HRo4 := Lib.hid hro4
      have HLeft := Lib.hid (left_yes wr.heap.size q cq l w4 _ _ (HBi.out.keep G4.out) HRo4.out (by rw [HLn.out]; omega))
      rw [HLn.out] at HLeft
      have hc4 := (G4.out.cell (p := ⟨pb, off + i, none⟩) hpb).trans HCW.out
      clear hro4 hf4 k4 HFeed
      go_wp2_with fail
      refine HLeft.out.mono ?_
      rintro e w5 ⟨rfl, nd, rfl⟩
      have HW5 : Hid (Wide wr.heap.size n (w4.drewN nd)) := Lib.hid (by have h := roomy_wide HRo4.out; rw [HLn.out] at h; exact h)
      have hfv : Hid (feedVal (came ++ l) = feedVal (came ++ l)) := rfl
      obtain ⟨fv, hfve⟩ : ∃ fv, feedVal (came ++ l) = fv := ⟨_, rfl⟩
      rw [hfve]
      have HFV := Lib.hid hfve
      clear hfv hfve hc4
      have G5 := Lib.hid (below_drewN nd G4.out)
      have HF5 := Lib.hid (id HF4.out : FeederAt W.heap.size (came ++ l) (w4.drewN nd))
      have HO5 := Lib.hid (id HO4.out : World.ownsRow (w4.drewN nd) _ _ _ _ _ _)
      obtain ⟨w5, hw5⟩ : ∃ w5, w4.drewN nd = w5 := ⟨_, rfl⟩
      have s5 : w3.heap.size ≤ w5.heap.size := by rw [← hw5]; exact s4
      rw [hw5] at HW5 G5 HF5 HO5 ⊢
      clear hw5 HLeft
      obtain ⟨wo, rfl⟩ : ∃ wo : World, wo = wr := ⟨_, rfl⟩
      go_wp2_with fail
      go_loopw [8] (fun v wr => ∃ k : Nat, k ≤ n ∧ v = .int .i64 k ∧ Hid (Wide wo.heap.size n wr) ∧ Hid (But w5.heap.size wo.heap.size w5 wr)) (fun v _ => n - (RowKit.intOf v).toNat)
      case atStart => exact ⟨0, Nat.zero_le _, rfl, HW5, But.refl _ _ _⟩
      case round =>
        obtain ⟨k, hk, rfl, hwd, hbt⟩ := hrel
        by_cases hkn : k < n
        · obtain ⟨⟨v, hv⟩, hfr⟩ := hwd.out.cell k hkn
          go_wp2_with fail
          go_roundw
          case rel => exact ⟨k + 1, by omega, by go_num, hwd.out.store k _, hbt.out.set (p := ⟨wo.heap.size, k, none⟩) (.inl rfl) _⟩
          case measure => simp [RowKit.intOf]; omega
        · obtain rfl : k = n := by omega
          have s6 := hbt.out.size
          have G6 := Lib.hid (G5.out.trans (hbt.out.below (by omega) (by omega)))
          have HF6 := Lib.hid (HF5.out.but hbt.out (by omega) (by omega))
          have HO6 := Lib.hid (HO5.out.kept (grown_but hbt.out (Nat.le_refl _)) (.inr (fun h => Nat.lt_irrefl _ (HOB.out _ h))))
          have hc6 := (G6.out.cell (p := ⟨pb, off + i, none⟩) hpb).trans HCW.out
          have hn0 := HNil.out
          have HNil2 : Hid (q = none → k = 0 ∧ cq = 0) := Lib.hid (fun h => ⟨by rw [← HLn.out, (HNil.out h).1]; rfl, (HNil.out h).2⟩)
          clear hn0 hwd hbt
          go_wp2_with (at_builtin; refine wpList_append_piece rfl (.tmp 57) (.tmp 61) rfl W.heap.size _ m came rfl HO6.out q k cq (m + k) l rfl HLn.out HNil2.out _ _ (HBi.out.keep G6.out) rfl (by omega) (by omega) ?_)
          intro p7 cap7 w7 hown7 hgrow7
          have hX : (came ++ l).length = m + k := by rw [List.length_append, HMn.out, HLn.out]
          have HX := Lib.hid hX
          have t7 := owns_text hown7 hX
          obtain ⟨p8, cap8, hsl, hpn, hB8⟩ := owns_bytes hown7 hX
          simp only [Value.slice.injEq, true_and] at hsl
          obtain ⟨rfl, rfl⟩ := hsl
          have HB8 := Lib.hid hB8
          have HPN := Lib.hid hpn
          have G7 := Lib.hid (G6.out.grown hgrow7 (by omega) (fun k hk => (HO6.out.lt k hk).1))
          have HF7 := Lib.hid (HF6.out.grown hgrow7 (row_feeder HO6.out HF6.out))
          have s7 := hgrow7.size
          have HO7 := Lib.hid hown7
          have HWr := Lib.hid (wrong_any ⟨(came ++ l).toArray⟩ (by show (came ++ l).toArray.size ≤ _; simp only [List.size_toArray]; omega))
          simp only at HWr
          have hfacts := feedVal_facts (came ++ l)
          have HTe := Lib.hid (fun no h w => tells_fed (came ++ l) no h w)
          have HSt := Lib.hid (fun (w : World) hF hB => stands_any W.heap.size p7 cap7 w7.heap.size w7.heap.size (came ++ l) w hF hB hpn (by omega))
          rw [hX] at HSt
          rw [HFV.out] at HTe
          obtain ⟨no, hno⟩ : ∃ no, (wrongS (came ++ l)).1 = no := ⟨_, rfl⟩
          obtain ⟨pl, hpl⟩ : ∃ pl, (wrongS (came ++ l)).2 = pl := ⟨_, rfl⟩
          obtain ⟨S, hS⟩ : ∃ S : ByteArray, ⟨(came ++ l).toArray⟩ = S := ⟨_, rfl⟩
          rw [hno, hpl] at HWr
          rw [hno] at hfacts
          rw [hpl, hno] at HTe
          rw [hS] at HWr t7
          have h3 : no = 30 ∨ no = 31 ∨ no = 0 := by omega
          clear hX hB8 hpn hgrow7 hown7 hfacts hno hpl hS hc6
          rcases h3 with rfl | rfl | rfl
          · go_wp2_with fail
            refine (HWr.out _).mono ?_
            rintro e w8 ⟨rfl, rfl⟩
            go_wp2_with fail
            refine (HTe.out 30 (by first | omega | simp) _).mono ?_
            rintro e w9 ⟨rfl, b9⟩
            have s9 := b9.size
            go_wp2_with fail
            refine (HSt.out w9 (HF7.out.below b9 (by omega)) (HB8.out.keep b9) s9).mono ?_
            rintro e w10 ⟨rfl, b10⟩
            have b79 := b9.trans (b10.mono s9)
            have HOx := Lib.hid (ownsRow_below HO7.out b79 (Nat.le_refl _))
            have HFx := Lib.hid (HF7.out.below b79 (by omega))
            have Gx := Lib.hid (G7.out.trans (b79.mono (by omega)))
            have sx := b10.size
            clear b9 b10 b79 t7
            go_wp2_with fail
            go_roundw
            case rel => exact ⟨i + 1, by omega, by go_num, by rw [HCat.out, HX.out]; exact HOx.out, by rw [HCat.out]; exact HFx, Gx, by omega⟩
            case measure => simp [RowKit.intOf]; omega
          · go_wp2_with fail
            refine (HWr.out _).mono ?_
            rintro e w8 ⟨rfl, rfl⟩
            go_wp2_with fail
            refine (HTe.out 0 (by first | omega | simp) _).mono ?_
            rintro e w9 ⟨rfl, b9⟩
            have s9 := b9.size
            go_wp2_with fail
            refine (HSt.out w9 (HF7.out.below b9 (by omega)) (HB8.out.keep b9) s9).mono ?_
            rintro e w10 ⟨rfl, b10⟩
            have b79 := b9.trans (b10.mono s9)
            have HOx := Lib.hid (ownsRow_below HO7.out b79 (Nat.le_refl _))
            have HFx := Lib.hid (HF7.out.below b79 (by omega))
            have Gx := Lib.hid (G7.out.trans (b79.mono (by omega)))
            have sx := b10.size
            clear b9 b10 b79 t7
            go_wp2_with fail
            go_roundw
            case rel => exact ⟨i + 1, by omega, by go_num, by rw [HCat.out, HX.out]; exact HOx.out, by rw [HCat.out]; exact HFx, Gx, by omega⟩
            case measure => simp [RowKit.intOf]; omega
          · go_wp2_with fail
            refine (HWr.out _).mono ?_
            rintro e w8 ⟨rfl, rfl⟩
            go_wp2_with fail
            refine (HTe.out 0 (by first | omega | simp) _).mono ?_
            rintro e w9 ⟨rfl, b9⟩
            have s9 := b9.size
            go_wp2_with fail
            refine (HSt.out w9 (HF7.out.below b9 (by omega)) (HB8.out.keep b9) s9).mono ?_
            rintro e w10 ⟨rfl, b10⟩
            have b79 := b9.trans (b10.mono s9)
            have HOx := Lib.hid (ownsRow_below HO7.out b79 (Nat.le_refl _))
            have HFx := Lib.hid (HF7.out.below b79 (by omega))
            have Gx := Lib.hid (G7.out.trans (b79.mono (by omega)))
            have sx := b10.size
            clear b9 b10 b79 t7
            go_wp2_with fail
            go_roundw
            case rel => exact ⟨i + 1, by omega, by go_num, by rw [HCat.out, HX.out]; exact HOx.out, by rw [HCat.out]; exact HFx, Gx, by omega⟩
            case measure => simp [RowKit.intOf]; omega
    · obtain rfl : i = N := by omega
      go_wp2_with fail
      go_ret
      exact ⟨rfl, hg.out⟩
theorem own : ownKnob Try.prog.godebug = none := by kernel_rfl

set_option maxRecDepth 100000 in
theorem utfFeeds_lifted (os : Os) (started : os.Started) (H : Type) (enc : TypeId × Value → H) :
    ReturnsInHanded {} Try.checked os 11 .any (Rows.utfFeedsSpec.pre6 enc Try.prog Try.f11 Rows.utfFeedsRow.domain false) (Rows.utfFeedsSpec.post enc Try.prog Try.f11 false true false false) := by
  refine returnsInHanded_of_change_sized (C := Try.checked) own started (by kernel_rfl) Try.func11
    (ChangeSpec.witness6 (enc := enc) (C := Try.checked) false ⟨#[], #[.slice none 0 0], []⟩ 8 (by kernel_rfl) (by kernel_rfl) (by kernel_rfl) (by kernel_rfl)) ?_
  intro W base args ds gs before hval0 hW _ hsz0 _
  have hsz : (DataW.weightsEach Try.prog (Try.f11.params.toList ++ Rows.utfFeedsSpec.plain.varTypes Try.prog) (ds ++ gs)).all (· ≤ reachBytes) = true := hsz0
  clear hsz0
  have hval : ∀ (j : Nat) t v, Try.f11.params[j]? = some t → args[j]? = some v → Value.okWide Try.prog W .any base t v := hval0
  have hW' := hW
  obtain ⟨p, q, hA0, hV, rfl, hfz, hnd⟩ := hW
  have hA : DataW.TrodAll enc Try.prog W 0 (fun _ => true) true Try.f11.params.toList args.toList ds p := hA0
  rw [Try.params11] at hA hval hsz
  obtain ⟨v0, vs0, d0, ds0, p0, q0, hargs, rfl, rfl, h0, r0⟩ := trodAll_cons hA
  obtain ⟨rfl, rfl, rfl⟩ := trodAll_nil r0
  obtain rfl : args = #[v0] := by cases args; simp_all
  obtain ⟨rfl, rfl⟩ := trodVars_none hV
  have h0k := h0
  obtain ⟨a0, N0, c0, P0, C0, L0, rfl, z0, B0⟩ := rows_open (hval 0 69 v0 rfl rfl) h0 hsz (j := 0) rfl rfl
  clear hA0 hval0
  simp only [List.append_nil] at hW'
  have hlt0 : ∀ x ∈ p0, x.block < W.heap.size := fun x hx => by have h := hW'.lt x (by simp [hx]); simpa using h
  refine (utfFeeds_walk a0 N0 c0 P0 C0 L0 W z0 B0).mono fun e W' ⟨he, hg⟩ => ?_
  subst he
  refine ⟨_, rfl, _, _, _, [], p0, [], hW', ?_, ?_, ?_, hg.frame _, fun h => by cases h⟩
  · exact trodAll_cons_mk (shut_bool Try.underlying4 _) trodAll_mk0
  · have t0 := Below.trod (by kernel_rfl) (by kernel_rfl) (of_decide_eq_true (by kernel_rfl)) h0k hg hlt0
    have ha := (trodAll_cons_mk t0 trodAll_mk0)
    simp only [List.append_nil] at ha
    exact ha
  · rfl

/-- UtfFeeds. -/
theorem utfFeeds_proved : Rows.UtfFeedsSaid :=
  OpenClaim.holds_of_wide 11 Try.f11 rfl rfl rfl rfl rfl rfl rfl ⟨rfl, rfl, rfl, rfl, rfl⟩ rfl rfl rfl rfl rfl (by kernel_rfl) Try.func11 (by kernel_rfl)
    (of_decide_eq_true (by kernel_rfl)) (by unfold Func.isWrapper; first | (rw [if_pos (by decide +kernel)]; kernel_rfl) | (rw [if_neg (by decide +kernel)]; exact ⟨rfl, rfl⟩))
    (fun os started H enc _ => utfFeeds_lifted os started H enc)
#print axioms utfFeeds_proved
end Go.Proofs.Ytjbhehkkigopmaa
