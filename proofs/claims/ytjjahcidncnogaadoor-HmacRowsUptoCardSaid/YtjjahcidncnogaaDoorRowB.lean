/- Rows of bytes: what a slice reads as, one in a block of its own, one that comes in, its text. -/
import Derived.Test.YtjjahcidncnogaaDoorRows
import Derived.Test.YtjjahcidncnogaaDoorBut
import Derived.WalkKit
import Derived.Handy
import Derived.Lib.Hide
import Derived.Lib.UnsafeStr
import Derived.Laws.BitsLemmas
import Derived.ProofKit
import Derived.OpenShut
import Derived.Carry
import Derived.ChangeSlices
import Derived.Laws.IdiomStrings
import Derived.Laws.CopyOwn
import Derived.Laws.MakeOwn
import Derived.Laws.OwnMore
namespace Go.Proofs.YtjjahcidncnogaaDoor
open Go.ChangeShapes Go.WideShapes Go.ChangeAt Go.RowKit Go.Lib

theorem infoByte : (Tryd.prog.info? 5).map (fun i => (i.zero, i.size, i.bytes)) = some (some (.int .u8 0), 1, 1) := by kernel_rfl
theorem below_drewN {B : Nat} {a b : World} (n : Nat) (h : Below B a b) : Below B a (b.drewN n) := ⟨h.os, h.tape, h.output, h.size, h.block⟩

/-- A slice that reads as a row of bytes, not in block K, below block b. -/
def Bytes (b K : Nat) (p : Option Addr) (l : List UInt8) (w : World) : Prop :=
  l ≠ [] → ∃ pb off, p = some ⟨pb, off, none⟩ ∧ pb < b ∧ pb ≠ K ∧ ∀ j, (h : j < l.length) → w.cell? ⟨pb, off + j, none⟩ = some (.int .u8 l[j].toNat)

/-- A row of bytes in a block of its own. -/
def Whole (g : Nat) (L : List UInt8) (w : World) : Prop := w.heap[g]? = some (.cells (byteCells L).toArray 5 (0, 0))

/-- append to a row that has room: the block, whole. -/
theorem wpList_append_fill {P : Program} {w : World} {ops : Array Oper} {rest : List Oper} {o : Oper} {a : Act} {Q : Exit → Act → World → Prop} (hgd : o.guard = none) (s x : Operand) (t : TypeId)
    (ho : o.op = .call { callee := .builtin .append, args := #[s, x], argTypes := #[t, t] }) (e : TypeId) (i : TypeInfo) (ht : P.underlying t = some (.slice e)) (hi : P.info? e = some i) (hsz : i.size = 1)
    (g n cap : Nat) (cur : Array Value) (hg : w.heap[g]? = some (.cells cur e (0, 0))) (hs : a.eval s = .slice (some ⟨g, 0, none⟩) n cap)
    (ad : Addr) (m c : Nat) (news : List Value) (hx : a.eval x = .slice (some ad) m c) (hl : news.length = m) (hnews : ∀ j u, news[j]? = some u → w.cell? (ad.add j) = some u) (h1 : ∀ u ∈ news, u.oneCell' = true)
    (hroom : n + m ≤ cap) (hfit : n + m ≤ cur.size)
    (h : ∀ w', w'.heap[g]? = some (.cells (cur.toList.take n ++ news ++ cur.toList.drop (n + m)).toArray e (0, 0)) → w.grownBy w' (some g) → wpList P ops Q rest (a.put o.dst (.slice (some ⟨g, 0, none⟩) (n + m) cap)) w') : wpList P ops Q (o :: rest) a w := by
  have hr := run_append_room (P := P) w t o.type e i ht hi g n cap cur hg ad m c news (by rw [hl, hsz, Nat.mul_one]) hnews h1 hroom (by rw [hl, hsz, Nat.mul_one]; exact hfit)
  rw [hsz, Nat.mul_one, hl] at hr
  refine wpList_plain hgd fun K hK => ?_
  unfold Oper.wp execOp
  simp only [ho, resolve, invoke, builtin, Sem.run_bind, Sem.run_pure, Result.andThen_ok, List.map_toArray, List.map_cons, List.map_nil, hs, hx, hr]
  exact hK _ _ (h _ (setRow_heap w g cur _ e _ hg) ⟨rfl, rfl, rfl, by simp, fun k _ hk => setRow_other w g k _ (fun e => hk (by rw [e]))⟩)

theorem cellsByte : Tryd.prog.cellsOf 5 = 1 := by kernel_rfl

set_option maxRecDepth 100000 in
/-- A slice of bytes that came in. -/
theorem bytes_open {H : Type} {enc : TypeId × Value → H} {W : World} {base b0 : Nat} {sp : Nat → Bool} {held : Bool} {v : Value} {d : DataW H} {p : List MemPlace}
    (hv : Value.okWide Tryd.prog W .any b0 28 v) (h : DataW.Trod enc Tryd.prog W base sp held 28 v d p) (K : Nat) (hK : W.heap.size ≤ K) :
    ∃ (q : Option Addr) (cap : Nat) (l : List UInt8), v = .slice q l.length cap ∧ l.length ≤ maxLen ∧ (q = none → l = []) ∧ Bytes W.heap.size K q l W ∧ (d = .nil ∧ l = [] ∨ ∃ es sp, d = .slice es sp ∧ es.length = l.length) ∧ l.length ≤ cap := by
  obtain ⟨a1, len, cap, rfl⟩ := okWide_slice Tryd.underlying28 hv
  obtain ⟨fuel, hf⟩ := h
  rcases open_ints Tryd.underlying28 Tryd.underlying5 cellsByte hf with ⟨hcs, hx⟩ | ⟨a, len', cap', zs, hcs, _, hl, hm, hz, hx, hcell, hwz⟩
  · simp [Value.cells] at hcs
    obtain ⟨rfl, rfl, rfl⟩ := hcs
    simp only [Prod.mk.injEq] at hx
    exact ⟨none, 0, [], rfl, Nat.zero_le _, fun _ => rfl, fun h => absurd rfl h, .inl ⟨hx.1, rfl⟩, Nat.le_refl _⟩
  · simp [Value.cells] at hcs
    obtain ⟨rfl, rfl, rfl⟩ := hcs
    have hle : len ≤ zs.length := by rw [hz]; split <;> omega
    have hlen : ((zs.take len).map fun n => UInt8.ofNat n.toNat).length = len := by simp; omega
    refine ⟨some a, cap, (zs.take len).map fun n => UInt8.ofNat n.toNat, by rw [hlen], by rw [hlen]; omega, fun h => (by cases h), fun hne => ?_, .inr ⟨_, _, by simp only [Prod.mk.injEq] at hx; exact hx.1, by rw [hlen]; simp [lits]; omega⟩, by rw [hlen]; exact hl⟩
    have h0 : 0 < len := by
      rcases Nat.eq_zero_or_pos len with h | h
      · subst h; simp at hne
      · exact h
    obtain ⟨ab, ao, spot⟩ := a
    have hspot : spot = none := by simpa [Addr.add] using World.cell?_spot (hcell 0 (by omega))
    subst hspot
    have hblk : ab < W.heap.size := by
      have hc := hcell 0 (by omega)
      rw [Addr.add_lit] at hc
      exact World.block_lt_of_cell? _ _ hc
    refine ⟨ab, ao, rfl, hblk, by omega, fun j hj => ?_⟩
    rw [hlen] at hj
    have hc := hcell j (by omega)
    rw [Addr.add_lit] at hc
    rw [hc]
    have e : zs.getD j 0 = zs[j]'(by omega) := by simp [List.getD, List.getElem?_eq_getElem (show j < zs.length by omega)]
    have hb := hwz (zs[j]'(by omega)) (List.getElem_mem _)
    simp only [List.getElem_map, List.getElem_take, e]
    simp [Lit.wf, IntKind.min, IntKind.max, IntKind.signed, IntKind.bits] at hb
    congr 2
    simp only [UInt8.toNat_ofNat']
    omega

theorem bytesByte : Tryd.prog.bytesOf 5 = 1 := by kernel_rfl

/-- No row of bytes that comes in is longer than Go's memory. -/
theorem bytes_reach {H : Type} {ts : List TypeId} {ds : List (DataW H)} (h : (DataW.weightsEach Tryd.prog ts ds).all (· ≤ reachBytes) = true) {j : Nat} {d : DataW H} {l : List UInt8} (ht : ts[j]? = some 28) (hd : ds[j]? = some d)
    (hl : d = .nil ∧ l = [] ∨ ∃ es sp, d = .slice es sp ∧ es.length = l.length) : l.length ≤ 140737488351232 := by
  rcases hl with ⟨_, rfl⟩ | ⟨es, sp, rfl, he⟩
  · exact Nat.zero_le _
  · have := sized_slice h ht hd Tryd.underlying28
    rw [bytesByte] at this
    simp only [reachBytes] at this
    omega

/-- The text of a row of bytes. -/
theorem bytes_text {b K : Nat} {p : Option Addr} {l : List UInt8} {w : World} (cap : Nat) (hB : Bytes b K p l w) (hn : p = none → l = []) :
    (convert 28 9 (.slice p l.length cap)).run Tryd.prog w = .ok (.string ⟨l.toArray⟩) w := by
  cases p with
  | none =>
    rw [hn rfl, run_convert_bytes_string w 28 9 5 none _ _ Tryd.underlying28 Tryd.underlying5 Tryd.underlying9]
    rfl
  | some a =>
    refine run_convert_bytes_back w 28 9 5 a cap l Tryd.underlying28 Tryd.underlying5 Tryd.underlying9 fun j hj => ?_
    obtain ⟨pb, off, hp, _, _, hc⟩ := hB (by intro e; rw [e] at hj; simp at hj)
    cases hp
    rw [Addr.add_lit]
    exact hc j hj

theorem Bytes.keep {b K : Nat} {p : Option Addr} {l : List UInt8} {w w' : World} (hB : Bytes b K p l w) (h : Below b w w') : Bytes b K p l w' := fun hne =>
  let ⟨pb, off, hp, h1, h2, hc⟩ := hB hne
  ⟨pb, off, hp, h1, h2, fun j hj => (h.cell (p := ⟨pb, off + j, none⟩) h1).trans (hc j hj)⟩
theorem Bytes.at {b K b' K' : Nat} {p : Option Addr} {l : List UInt8} {w : World} (hB : Bytes b K p l w) (hb : b ≤ b') (hK : b ≤ K') : Bytes b' K' p l w := fun hne =>
  let ⟨pb, off, hp, h1, _, hc⟩ := hB hne
  ⟨pb, off, hp, by omega, by omega, hc⟩
theorem Bytes.drewN {b K : Nat} {p : Option Addr} {l : List UInt8} {w : World} (hB : Bytes b K p l w) (n : Nat) : Bytes b K p l (w.drewN n) := hB

theorem whole_bytes {g K b : Nat} {l : List UInt8} {w : World} (h : Whole g l w) (hb : g < b) (hK : g ≠ K) : Bytes b K (some ⟨g, 0, none⟩) l w := fun _ =>
  ⟨g, 0, rfl, hb, hK, fun j hj => by
    unfold Whole at h
    rw [cell_of_heap h, Nat.zero_add]
    simp [byteCells, List.getElem?_eq_getElem hj]⟩
theorem whole_set {g : Nat} {L : List UInt8} {w : World} (h : Whole g L w) (p : Nat) (b : UInt8) : Whole g (L.set p b) (w.setCell ⟨g, p, none⟩ (.int .u8 b.toNat)) := by
  unfold Whole at *
  rw [row_set (i := p) h]
  congr 2
  rw [List.setIfInBounds_toArray]
  congr 1
  simp [byteCells, List.map_set]
theorem whole_lt {g : Nat} {L : List UInt8} {w : World} (h : Whole g L w) : g < w.heap.size := (Array.getElem?_eq_some_iff.1 h).1
theorem Whole.keep {g : Nat} {L : List UInt8} {w w' : World} {B : Nat} (h : Whole g L w) (hb : Below B w w') (hg : g < B) : Whole g L w' := (hb.block g hg).trans h

/-- The text of a row of bytes of the call's own. -/
theorem owns_text {w : World} {B n : Nat} {o : Value} {L : List UInt8} (h : w.ownsRow B 5 1 o n (byteCells L)) (hn : L.length = n) :
    (convert 28 9 o).run Tryd.prog w = .ok (.string ⟨L.toArray⟩) w := by
  subst hn
  have hc := fun g hg => h.cells (g := g) hg
  rcases h.2 with ⟨rfl, h0⟩ | ⟨g, cap, cur, rfl, _⟩
  · obtain rfl : L = [] := List.eq_nil_of_length_eq_zero h0
    rw [run_convert_bytes_string w 28 9 5 none _ _ Tryd.underlying28 Tryd.underlying5 Tryd.underlying9]
    rfl
  · refine run_convert_bytes_back w 28 9 5 ⟨g, 0, none⟩ cap L Tryd.underlying28 Tryd.underlying5 Tryd.underlying9 fun j hj => ?_
    refine hc g rfl j _ ?_
    simp [byteCells, List.getElem?_eq_getElem hj]
end Go.Proofs.YtjjahcidncnogaaDoor
