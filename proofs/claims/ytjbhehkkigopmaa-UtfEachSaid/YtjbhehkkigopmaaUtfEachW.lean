/- The law UtfEach holds: Each goes over the characters of a right text with their places, again at each round, also within a round of its own, and stops where a round says so; of a wrong text it hands nothing over. Of texts of more than 2^31 - 1 bytes the law asks nothing. -/
import Derived.Test.YtjbhehkkigopmaaUtfEachC
import Derived.Test.YtjbhehkkigopmaaUtfRefCmp
import Derived.Test.YtjbhehkkigopmaaUtfDecodes
import Derived.Laws.EntriesVeiled
namespace Go.Proofs.Ytjbhehkkigopmaa
open Go.ChangeMaps Go.ChangeShapes Go.WideShapes Go.ChangeAt Go.RowKit Go.Shelf Go.Lib Go.Joins
attribute [local go_sem] Oper.semAt_some

/-- What stands below T while the rounds go on: the place to stop, the answer's cell, the two rows, the iterator and its text. -/
structure EachHeld (T b0 B5 B6 B7 Bs : Nat) (stop : Int) (R : List (Nat × Nat)) (q1 q2 : Option Addr) (c1 c2 : Nat) (s : ByteArray) (W : World) : Prop where
  b3 : Boxed W b0 3 (.int .i64 stop)
  b4 : Boxed W (b0 + 1) 4 (.bool false)
  b5 : Boxed W B5 36 (.slice q1 R.length c1)
  b6 : Boxed W B6 37 (.slice q2 R.length c2)
  b7 : ∃ t, Boxed W B7 t (.func (.func 59) #[] #[.pointer (some ⟨Bs, 0, none⟩)])
  bs : Boxed W Bs 9 (.string s)
  r1 : ∀ j (h : j < R.length), ∃ g, q1 = some ⟨g, 0, none⟩ ∧ g < T ∧ W.cell? ⟨g, j, none⟩ = some (.int .i32 (R[j].1 : Int))
  r2 : ∀ j (h : j < R.length), ∃ g, q2 = some ⟨g, 0, none⟩ ∧ g < T ∧ W.cell? ⟨g, j, none⟩ = some (.int .i64 (R[j].2 : Int))
  l0 : b0 + 1 < T
  l5 : B5 < T
  l6 : B6 < T
  l7 : B7 < T
  ls : Bs < T
theorem EachHeld.below {T b0 B5 B6 B7 Bs : Nat} {stop : Int} {R : List (Nat × Nat)} {q1 q2 : Option Addr} {c1 c2 : Nat} {s : ByteArray} {A B : World} (h : EachHeld T b0 B5 B6 B7 Bs stop R q1 q2 c1 c2 s A) (hb : Below T A B) : EachHeld T b0 B5 B6 B7 Bs stop R q1 q2 c1 c2 s B where
  b3 := (hb.block _ (by have := h.l0; omega)).trans h.b3
  b4 := (hb.block _ h.l0).trans h.b4
  b5 := (hb.block _ h.l5).trans h.b5
  b6 := (hb.block _ h.l6).trans h.b6
  b7 := h.b7.imp fun _ k => (hb.block _ h.l7).trans k
  bs := (hb.block _ h.ls).trans h.bs
  r1 := fun j hj => by
    obtain ⟨g, e1, e2, e3⟩ := h.r1 j hj
    exact ⟨g, e1, e2, (hb.cell (p := ⟨g, j, none⟩) e2).trans e3⟩
  r2 := fun j hj => by
    obtain ⟨g, e1, e2, e3⟩ := h.r2 j hj
    exact ⟨g, e1, e2, (hb.cell (p := ⟨g, j, none⟩) e2).trans e3⟩
  l0 := h.l0
  l5 := h.l5
  l6 := h.l6
  l7 := h.l7
  ls := h.ls
theorem own_cells {w : World} {B t n : Nat} {v : Value} {xs : List Value} (h : w.ownsRow B t 1 v n xs) : ∃ q c, v = .slice q n c ∧ ∀ j u, xs[j]? = some u → ∃ g, q = some ⟨g, 0, none⟩ ∧ g < w.heap.size ∧ w.cell? ⟨g, j, none⟩ = some u := by
  rcases h.2 with ⟨rfl, h0⟩ | ⟨g, cap, cur, rfl, hB, hg, hn, hm, hs, ht⟩
  · refine ⟨none, 0, by rw [h0], fun j u hj => ?_⟩
    have h1 := h.1
    have : j < xs.length := (List.getElem?_eq_some_iff.1 hj).1
    omega
  · refine ⟨some ⟨g, 0, none⟩, cap, rfl, fun j u hj => ⟨g, rfl, (Array.getElem?_eq_some_iff.1 hg).1, ?_⟩⟩
    have e := h.cells rfl j u hj
    rw [Addr.add_lit, Nat.zero_add] at e
    exact e

theorem equalIn_nilFunc (d : Nat) (f : Fn) (xs ys : Array Value) (w : World) : (Op.equalIn (d + 1) 66 (.func f xs ys) .nilFunc).run Try.prog w = .ok false w := by
  simp [Op.equalIn, run_underlying Try.underlying66]
theorem equal_nilFunc (f : Fn) (xs ys : Array Value) (w : World) : (Op.equal 66 (.func f xs ys) .nilFunc).run Try.prog w = .ok false w := equalIn_nilFunc 9999 f xs ys w
/-- How a round over Each leaves: by a return, where what has come is no beginning of the text's characters; by a break. -/
def EachEx (id : Nat) (R : List (Nat × Nat)) (Brk : List Rn → World → Prop) (c : Code) (pre : List Rn) (W : World) : Prop := (c = .ret ∧ ¬ fsts pre <+: R) ∨ (c = .exit id ∧ Brk pre W)
theorem eachEx_own {B id : Nat} {R : List (Nat × Nat)} {Brk : List Rn → World → Prop} (h : OwnFrom B Brk) (c : Code) : OwnFrom B (EachEx id R Brk c) := fun s A A' row hs hg hr => hs.imp (fun k => k) fun k => ⟨k.1, h s A A' row k.2 hg hr⟩

theorem range_eachH {F : Fence} {n : Nat} {P : Program} {id : Nat} {R : List (Nat × Nat)} {g : Operand} {ps : Array Tmp} {assign body : Code} {Q0 : Exit → Act → World → Prop} {a : Act} {w : World}
    (hro : F.round = none) (h1 : 1 ≤ n) {gf : Nat} {lb : Array Value} (hg : a.eval g = .func (.func gf) #[] lb) (hFg : F.fn gf) (eg : ∀ args w, (callFunc gf args).run P w = .ok (.enter gf args) w)
    {N : Nat} (hseq : SeqStopsK F (n - 1) P gf lb (fun x : Rn => encE x.1) KeepsWalks (fun ys => fsts ys = R) (fun pre => fsts pre <+: R) N w) (hps : 2 = ps.size)
    (I Brk : List Rn → World → Prop) (hI : OwnFrom w.heap.size I) (hB : OwnFrom w.heap.size Brk) (h0 : I [] w) (a₁ : Rn → Act)
    (hassign : ∀ (l : Nat) (x : Rn) (W : World) (K : Act → World → Prop), K (a₁ x) W →
      assign.wpIn (F.inRound l) (n - 1 - 1) P (Exit.then K (fun _ _ _ => False)) { tmps := (ps.zip (encE x.1)).foldl (fun t (p, v) => t.setIfInBounds p v) a.tmps, defers := [] } W)
    (hbody : ∀ (l : Nat) (pre : List Rn) (x : Rn) (W : World), w.heap.size ≤ l → (∃ r, W.heap[l]? = some (.loop r)) → I pre W → pre.length < N → body.wpIn (F.inRound l) (n - 1 - 1) P (ownPostG w.heap.size KeepsWalks I (EachEx id R Brk) (pre ++ [x]) W) (a₁ x) W)
    (hgo : ∀ (D : Nat) (pre : List Rn) (W : World), w.heap.size ≤ D → (fsts pre = R ∧ I pre W ∨ Brk pre W) → W.heap[D]? = some (.deferred (some [])) → Q0 .normal { a with defers := { target := .collected D, args := #[] } :: a.defers } W) :
    (Code.rangeFunc g ps assign body).wpIn F n P (Exit.inBlock id Q0) a w := by
  refine wpIn_rangeFunc_ownH hro h1 hg hFg eg hseq walksK_t walksK_b (Below.refl _ _) (fun _ => hps) I (EachEx id R Brk) hI (eachEx_own hB) h0 (fun x a' _ => a' = a₁ x) (fun _ _ _ _ _ _ hs _ _ => hs) ?_ ?_ ?_ ?_
  · exact fun l pre x W K hi hK => hassign l x W K (hK _ _ (KeepsFrom.refl _ _) (KeepsWalks.refl _) hi rfl)
  · rintro l pre x a' W hl hr hi rfl hN
    exact hbody l pre x W hl hr hi hN
  · exact fun D xs W hD hS hi hK => hgo D xs W hD (.inl ⟨hS, hi⟩) hK
  · rintro D c pre W hD hSp (⟨rfl, hn⟩ | ⟨rfl, hb⟩) hK
    · exact absurd hSp hn
    · have h := hgo D pre W hD (.inr hb) hK
      gi_wp2
      simpa [Exit.inBlock] using h

theorem range_eachN {F : Fence} {n : Nat} {P : Program} {id : Nat} {R : List (Nat × Nat)} {g : Operand} {ps : Array Tmp} {assign body : Code} {Q0 : Exit → Act → World → Prop} {a : Act} {w : World}
    {l₀ : Nat} {r₀ : Loop} (hro : F.round = some l₀) (hl₀ : w.heap[l₀]? = some (.loop r₀)) (h1 : 1 ≤ n) {gf : Nat} {lb : Array Value} (hg : a.eval g = .func (.func gf) #[] lb) (hFg : F.fn gf) (eg : ∀ args w, (callFunc gf args).run P w = .ok (.enter gf args) w)
    {N : Nat} (hseq : SeqStopsK F (n - 1) P gf lb (fun x : Rn => encE x.1) KeepsWalks (fun ys => fsts ys = R) (fun pre => fsts pre <+: R) N w) (hps : 2 = ps.size)
    (I Brk : List Rn → World → Prop) (hI : OwnFrom w.heap.size I) (hB : OwnFrom w.heap.size Brk) (h0 : I [] w) (a₁ : Rn → Act)
    (hassign : ∀ (l : Nat) (x : Rn) (W : World) (K : Act → World → Prop), K (a₁ x) W →
      assign.wpIn (F.inRound l) (n - 1 - 1) P (Exit.then K (fun _ _ _ => False)) { tmps := (ps.zip (encE x.1)).foldl (fun t (p, v) => t.setIfInBounds p v) a.tmps, defers := [] } W)
    (hbody : ∀ (l : Nat) (pre : List Rn) (x : Rn) (W : World), w.heap.size ≤ l → (∃ r, W.heap[l]? = some (.loop r)) → I pre W → pre.length < N → body.wpIn (F.inRound l) (n - 1 - 1) P (ownPostG w.heap.size KeepsWalks I (EachEx id R Brk) (pre ++ [x]) W) (a₁ x) W)
    (hgo : ∀ (pre : List Rn) (W : World), (fsts pre = R ∧ I pre W ∨ Brk pre W) → Q0 .normal a W) :
    (Code.rangeFunc g ps assign body).wpIn F n P (Exit.inBlock id Q0) a w := by
  refine wpIn_rangeFunc_ownN hro hl₀ h1 hg hFg eg hseq walksK_t walksK_b (Below.refl _ _) (fun _ => hps) I (EachEx id R Brk) hI (eachEx_own hB) h0 (fun x a' _ => a' = a₁ x) (fun _ _ _ _ _ _ hs _ _ => hs) ?_ ?_ ?_ ?_
  · exact fun l pre x W K hi hK => hassign l x W K (hK _ _ (KeepsFrom.refl _ _) (KeepsWalks.refl _) hi rfl)
  · rintro l pre x a' W hl hr hi rfl hN
    exact hbody l pre x W hl hr hi hN
  · exact fun xs W hS hi => hgo xs W (.inl ⟨hS, hi⟩)
  · rintro c pre W hSp (⟨rfl, hn⟩ | ⟨rfl, hb⟩)
    · exact absurd hSp hn
    · have h := hgo pre W (.inr hb)
      gi_wp2
      simpa [Exit.inBlock] using h

theorem keepsFrom_below (B : Nat) {W W' : World} (h : Below W.heap.size W W') : KeepsFrom B W W' := ⟨h.size, fun i _ _ hi _ => (h.block i (Array.getElem?_eq_some_iff.1 hi).1).trans hi⟩
theorem keepsWalks_below {W W' : World} (h : Below W.heap.size W W') : KeepsWalks W W' := ⟨h.size, fun i _ hi _ => (h.block i (Array.getElem?_eq_some_iff.1 hi).1).trans hi⟩
theorem each_ends (F : Fence) (n : Nat) (tmps : Array Value) (D1 D2 D3 b0 : Nat) (W U : World) (h4 : tmps[4]?.getD undef = .pointer (some ⟨b0 + 1, 0, none⟩)) (b4 : Boxed U (b0 + 1) 4 (.bool false))
    (k1 : U.heap[D1]? = some (.deferred (some []))) (k2 : U.heap[D2]? = some (.deferred (some []))) (k3 : U.heap[D3]? = some (.deferred (some []))) (h12 : D1 < D2) (h23 : D2 < D3) (hb : W.heap.size ≤ b0) (hd : b0 + 1 < D1) (hB : Below W.heap.size W U) :
    LeavesInM F n Try.prog Try.f10 tmps (fun e w' => e = .returned (.bool true) ∧ Below W.heap.size W w') [{ target := .collected D3, args := #[] }, { target := .collected D2, args := #[] }, { target := .collected D1, args := #[] }] .returning (U.setCell ⟨b0 + 1, 0, none⟩ (.bool true)) := by
  have b0' := b4.set (.bool true)
  have hV0 := hB.setCell (p := ⟨b0 + 1, 0, none⟩) (by simp only; omega) (.bool true)
  have q1 := (KeepsOthers.setCell U ⟨b0 + 1, 0, none⟩ (.bool true)).same D1 _ k1 rfl
  have q2 := (KeepsOthers.setCell U ⟨b0 + 1, 0, none⟩ (.bool true)).same D2 _ k2 rfl
  have q3 := (KeepsOthers.setCell U ⟨b0 + 1, 0, none⟩ (.bool true)).same D3 _ k3 rfl
  generalize U.setCell ⟨b0 + 1, 0, none⟩ (.bool true) = V0 at b0' hV0 q1 q2 q3 ⊢
  clear b4 k1 k2 k3
  have l1 := (Array.getElem?_eq_some_iff.1 q1).1
  have l2 := (Array.getElem?_eq_some_iff.1 q2).1
  have g1 := grownBy_putObj' V0 D3 (.deferred none)
  have b1 := b0'.kept g1 (fun e => by cases e; omega)
  have r1 := (g1.block D1 l1 (fun e => by cases e; omega)).trans q1
  have r2 := (g1.block D2 l2 (fun e => by cases e; omega)).trans q2
  have hV1 := hV0.trans (belowK_b (w := W) (Nat.le_refl _) V0 D3 _ (.deferred none) (by omega) q3 rfl rfl)
  refine ⟨by simp, .inl ⟨_, _, rfl, run_takeDeferred q3, ?_⟩⟩
  generalize V0.putObj D3 (.deferred none) = V1 at g1 b1 r1 r2 hV1 ⊢
  clear g1 q1 q2 q3 hV0 b0' l1 l2
  have l1 := (Array.getElem?_eq_some_iff.1 r1).1
  have g2 := grownBy_putObj' V1 D2 (.deferred none)
  have b2 := b1.kept g2 (fun e => by cases e; omega)
  have r1' := (g2.block D1 l1 (fun e => by cases e; omega)).trans r1
  have hV2 := hV1.trans (belowK_b (w := W) (Nat.le_refl _) V1 D2 _ (.deferred none) (by omega) r2 rfl rfl)
  refine ⟨by simp, .inl ⟨_, _, rfl, run_takeDeferred r2, ?_⟩⟩
  generalize V1.putObj D2 (.deferred none) = V2 at g2 b2 r1' hV2 ⊢
  clear g2 r1 r2 hV1 b1 l1
  have g3 := grownBy_putObj' V2 D1 (.deferred none)
  have b3 := b2.kept g3 (fun e => by cases e; omega)
  have hV3 := hV2.trans (belowK_b (w := W) (Nat.le_refl _) V2 D1 _ (.deferred none) (by omega) r1' rfl rfl)
  refine ⟨by simp, .inl ⟨_, _, rfl, run_takeDeferred r1', ?_⟩⟩
  generalize V2.putObj D1 (.deferred none) = V3 at g3 b3 hV3 ⊢
  have c3 := b3.cell
  refine ⟨.bool true, ?_, rfl, hV3⟩
  simp [results, Try.f10, go_sem, h4, c3]

theorem not_prefix {R : List (Nat × Nat)} {pre : List Rn} {x : Rn} {y : Nat × Nat} (hy : R[pre.length]? = some y) (hne : ¬ x.1 = y) : ¬ fsts (pre ++ [x]) <+: R := fun h => by
  obtain ⟨t, rfl⟩ := h
  refine hne ?_
  rw [fsts_snoc, List.append_assoc, ← fsts_len pre, List.getElem?_append_right (Nat.le_refl _), Nat.sub_self] at hy
  simpa using hy
theorem not_same {x : Rn} {y : Nat × Nat} (hgood : ¬ x.1 = y) : ¬ ((x.1.2 : Int) = (y.2 : Int)) ∨ ((x.1.2 : Int) = (y.2 : Int)) ∧ ¬ ((x.1.1 : Int) = (y.1 : Int)) := by
  by_cases h2 : x.1.2 = y.2
  · right
    refine ⟨by rw [h2], fun h1 => hgood ?_⟩
    have h1' : x.1.1 = y.1 := by omega
    rw [Prod.ext_iff]
    exact ⟨h1', h2⟩
  · left
    omega
theorem eql_nilFunc (f : Fn) (xs ys : Array Value) (w : World) : (binOp .eql 66 (.func f xs ys) .nilFunc).run Try.prog w = .ok (.bool false) w := by
  simp only [binOp]
  simp [equal_nilFunc]

theorem each_stand (s : ByteArray) (stop : Int) (R : List (Nat × Nat)) (q1 q2 : Option Addr) (c1 c2 t7 b0 : Nat) (W1 w2 : World) (b3 : Boxed W1 b0 3 (.int .i64 stop)) (b4 : Boxed W1 (b0 + 1) 4 (.bool false)) (hS1 : W1.heap.size = b0 + 2)
    (hb2 : Below W1.heap.size W1 w2) (k1 : ∀ j u, (R.map fun x => Value.int .i32 (x.1 : Int))[j]? = some u → ∃ g, q1 = some ⟨g, 0, none⟩ ∧ g < w2.heap.size ∧ w2.cell? ⟨g, j, none⟩ = some u)
    (k2 : ∀ j u, (R.map fun x => Value.int .i64 (x.2 : Int))[j]? = some u → ∃ g, q2 = some ⟨g, 0, none⟩ ∧ g < w2.heap.size ∧ w2.cell? ⟨g, j, none⟩ = some u) :
    EachHeld (w2.heap.size + 1 + 1 + 1 + 1) b0 w2.heap.size (w2.heap.size + 1) (w2.heap.size + 1 + 1 + 1) (w2.heap.size + 1 + 1) stop R q1 q2 c1 c2 s
      ((((w2.alloc (.cells #[.slice q1 R.length c1] 36)).alloc (.cells #[.slice q2 R.length c2] 37)).alloc (.cells #[.string s] 9)).alloc (.cells #[.func (.func 59) #[] #[.pointer (some ⟨w2.heap.size + 1 + 1, 0, none⟩)]] t7)) := by
  have s2 := hb2.size
  have a3 : Boxed w2 b0 3 (.int .i64 stop) := (hb2.block _ (by omega)).trans b3
  have a4 : Boxed w2 (b0 + 1) 4 (.bool false) := (hb2.block _ (by omega)).trans b4
  have a5 := ((Boxed.new w2 36 (.slice q1 R.length c1)).alloc (.cells #[.slice q2 R.length c2] 37)).alloc (.cells #[.string s] 9)
  have a6 := (Boxed.new (w2.alloc (.cells #[.slice q1 R.length c1] 36)) 37 (.slice q2 R.length c2)).alloc (.cells #[.string s] 9)
  have asx := Boxed.new ((w2.alloc (.cells #[.slice q1 R.length c1] 36)).alloc (.cells #[.slice q2 R.length c2] 37)) 9 (.string s)
  have a7 := Boxed.new (((w2.alloc (.cells #[.slice q1 R.length c1] 36)).alloc (.cells #[.slice q2 R.length c2] 37)).alloc (.cells #[.string s] 9)) t7 (.func (.func 59) #[] #[.pointer (some ⟨w2.heap.size + 1 + 1, 0, none⟩)])
  simp only [World.size_alloc] at a6 asx a7
  have hb : Below w2.heap.size w2 ((((w2.alloc (.cells #[.slice q1 R.length c1] 36)).alloc (.cells #[.slice q2 R.length c2] 37)).alloc (.cells #[.string s] 9)).alloc (.cells #[.func (.func 59) #[] #[.pointer (some ⟨w2.heap.size + 1 + 1, 0, none⟩)]] t7)) :=
    ((((Below.refl _ w2).alloc (Nat.le_refl _) _).alloc (by simp) _).alloc (by simp; omega) _).alloc (by simp; omega) _
  exact {
    b3 := (((a3.alloc _).alloc _).alloc _).alloc _
    b4 := (((a4.alloc _).alloc _).alloc _).alloc _
    b5 := a5.alloc _
    b6 := a6.alloc _
    b7 := ⟨t7, a7⟩
    bs := asx.alloc _
    r1 := fun j hj => by
      obtain ⟨g, e1, e2, e3⟩ := k1 j (.int .i32 (R[j].1 : Int)) (by rw [List.getElem?_map, List.getElem?_eq_getElem hj]; rfl)
      exact ⟨g, e1, by omega, (hb.cell (p := ⟨g, j, none⟩) e2).trans e3⟩
    r2 := fun j hj => by
      obtain ⟨g, e1, e2, e3⟩ := k2 j (.int .i64 (R[j].2 : Int)) (by rw [List.getElem?_map, List.getElem?_eq_getElem hj]; rfl)
      exact ⟨g, e1, by omega, (hb.cell (p := ⟨g, j, none⟩) e2).trans e3⟩
    l0 := by omega
    l5 := by omega
    l6 := by omega
    l7 := by omega
    ls := by omega }

set_option maxRecDepth 100000 in
set_option maxHeartbeats 40000000 in
theorem utfEach_walk (s : ByteArray) (stop : Int) (W : World) (hlen : s.size ≤ 140737488351232) :
    Calls Try.prog 10 #[.string s, .int .i64 stop] W fun e w' => e = .returned (.bool true) ∧ Below W.heap.size W w' := by
  obtain ⟨n, hn⟩ : ∃ n, s.size = n := ⟨_, rfl⟩
  have HB1 := Lib.hid (((Below.refl W.heap.size W).alloc (Nat.le_refl _) (.cells #[.int .i64 stop] 3)).alloc (by simp) (.cells #[.bool false] 4))
  have b3 := (Boxed.new W 3 (.int .i64 stop)).alloc (.cells #[.bool false] 4)
  have b4 := Boxed.new (W.alloc (.cells #[.int .i64 stop] 3)) 4 (.bool false)
  rw [World.size_alloc] at b4
  have hS1 : ((W.alloc (.cells #[.int .i64 stop] 3)).alloc (.cells #[.bool false] 4)).heap.size = W.heap.size + 2 := by simp
  obtain ⟨W1, hW1⟩ : ∃ W1, (W.alloc (.cells #[.int .i64 stop] 3)).alloc (.cells #[.bool false] 4) = W1 := ⟨_, rfl⟩
  rw [hW1] at HB1 b3 b4 hS1
  by_cases hbig : 2147483647 < n
  · have e1 : decide ((2147483647 : Int) < (n : Int)) = true := decide_eq_true (by omega)
    have c4 := b4.cell
    have f4 := b4.frozen
    have c4' := (b4.set (.bool true)).cell
    have HBe := Lib.hid (HB1.out.setCell (p := ⟨W.heap.size + 1, 0, none⟩) (by simp) (.bool true))
    refine (callsIn_wide (n := 9)).1 ?_
    refine callsIn_of_wp_marks Try.func10 rfl trivial ?_ rfl
    simp only [Try.ntmps10, List.size_toArray, List.length_cons, List.length_nil, Nat.reduceAdd, Nat.reduceSub, Array.replicate_succ, Array.replicate_zero, List.push_toArray, List.append_toArray, List.nil_append, List.cons_append]
    gi_wp2
    clear hW1
    refine ⟨trivial, ?_⟩
    refine (callsIn_wide.2 (beyond_any _ _)).mono ?_
    rintro e w1 ⟨rfl, rfl⟩
    gi_wp2
    refine ⟨.bool true, ?_, rfl, HBe.out⟩
    simp [results, Try.f10, go_sem, c4']
  have e1 : decide ((2147483647 : Int) < (n : Int)) = false := decide_eq_false (by omega)
  have hsz : s.size ≤ 4294967296 := by omega
  have HRun := Lib.hid (refRunes_any s hsz)
  have HRt := Lib.hid (refRight_any s hlen)
  unfold RunesOut at HRun
  have HE := Lib.hid (fun n hn Bs w hBs hlt => each_stops n hn Bs s hsz w hBs hlt)
  have hRl := runesOf_len s.data.toList 0
  have hll : s.data.toList.length = n := by rw [← hn]; exact Array.length_toList
  obtain ⟨L, hL⟩ : ∃ L, s.data.toList = L := ⟨_, rfl⟩
  rw [hL] at HRun HRt HE hRl hll
  have hEL : eachL L = if rt L = true then runesOf L 0 else [] := rfl
  obtain ⟨R0, hR0⟩ : ∃ R0, runesOf L 0 = R0 := ⟨_, rfl⟩
  rw [hR0] at HRun hRl hEL
  obtain ⟨R, hR⟩ : ∃ R, eachL L = R := ⟨_, rfl⟩
  rw [hR] at HE hEL
  obtain ⟨rr, hrr⟩ : ∃ rr, rt L = rr := ⟨_, rfl⟩
  rw [hrr] at HRt hEL
  have HEL := Lib.hid hEL
  have hk : R.length ≤ 4294967296 := by rw [hEL]; split; exact Nat.le_trans hRl (by omega); exact Nat.zero_le _
  clear hlen hR hR0 hrr hL hEL hll
  refine (callsIn_wide (n := 9)).1 ?_
  refine callsIn_of_wp_marks Try.func10 rfl trivial ?_ rfl
  simp only [Try.ntmps10, List.size_toArray, List.length_cons, List.length_nil, Nat.reduceAdd, Nat.reduceSub, Array.replicate_succ, Array.replicate_zero, List.push_toArray, List.append_toArray, List.nil_append, List.cons_append]
  gi_wp2
  clear hW1
  refine ⟨trivial, ?_⟩
  refine (callsIn_wide.2 (beyond_any _ _)).mono ?_
  rintro e w1 ⟨rfl, rfl⟩
  gi_wp2
  refine ⟨trivial, ?_⟩
  refine (callsIn_wide.2 (HRun.out _)).mono ?_
  rintro e w2 ⟨v1, v2, rfl, ho1, ho2, hb2⟩
  have s2 := hb2.size
  obtain ⟨q1, c1, rfl, k1⟩ := own_cells ho1
  obtain ⟨q2, c2, rfl, k2⟩ := own_cells ho2
  have K1 := Lib.hid k1
  have K2 := Lib.hid k2
  clear ho1 ho2 k1 k2
  cases rr
  case' false =>
    have hRn : R = [] := by have := HEL.out; simpa using this
    gi_wp2
    refine ⟨trivial, ?_⟩
    refine (callsIn_wide.2 (HRt.out _)).mono ?_
    rintro e w3 ⟨rfl, rfl⟩
    gi_wp2
    refine ⟨trivial, ?_⟩
    refine (callsIn_wide.2 (each_in s _)).mono ?_
    rintro e w3 ⟨rfl, rfl⟩
    have HH : Hid (EachHeld (w2.heap.size + 1 + 1 + 1 + 1) W.heap.size w2.heap.size (w2.heap.size + 1) (w2.heap.size + 1 + 1 + 1) (w2.heap.size + 1 + 1) stop [] none none 0 0 s ((((w2.alloc (.cells #[.slice none 0 0] 36)).alloc (.cells #[.slice none 0 0] 37)).alloc (.cells #[.string s] 9)).alloc (.cells #[.func (.func 59) #[] #[.pointer (some ⟨w2.heap.size + 1 + 1, 0, none⟩)]] 66))) :=
      Lib.hid (each_stand s stop [] none none 0 0 66 W.heap.size W1 w2 b3 b4 hS1 hb2 (fun j u h => by simp at h) (fun j u h => by simp at h))
    obtain ⟨W4, hW4⟩ : ∃ W4, (((w2.alloc (.cells #[.slice none 0 0] 36)).alloc (.cells #[.slice none 0 0] 37)).alloc (.cells #[.string s] 9)).alloc (.cells #[.func (.func 59) #[] #[.pointer (some ⟨w2.heap.size + 1 + 1, 0, none⟩)]] 66) = W4 := ⟨_, rfl⟩
    rw [hW4] at HH
    have HT : Hid (W4.heap.size = w2.heap.size + 1 + 1 + 1 + 1) := Lib.hid (by rw [← hW4]; simp)
    have HB4 : Hid (Below W.heap.size W W4) := by
      refine Lib.hid ?_
      rw [← hW4]
      have h := HB1.out.trans (hb2.mono (by omega))
      exact (((h.alloc (by omega) _).alloc (by simp; omega) _).alloc (by simp; omega) _).alloc (by simp; omega) _
    rw [← hRn] at HH
    obtain ⟨p1, p2, HH⟩ : ∃ p1 p2 : Option Addr, Hid (EachHeld (w2.heap.size + 1 + 1 + 1 + 1) W.heap.size w2.heap.size (w2.heap.size + 1) (w2.heap.size + 1 + 1 + 1) (w2.heap.size + 1 + 1) stop R p1 p2 0 0 s W4) := ⟨none, none, HH⟩
    clear hRn b3 b4 hb2 K1 K2 HEL HRun HRt
  case' true =>
    obtain rfl : R = R0 := HEL.out
    gi_wp2
    refine ⟨trivial, ?_⟩
    refine (callsIn_wide.2 (HRt.out _)).mono ?_
    rintro e w3 ⟨rfl, rfl⟩
    gi_wp2
    refine ⟨trivial, ?_⟩
    refine (callsIn_wide.2 (each_in s _)).mono ?_
    rintro e w3 ⟨rfl, rfl⟩
    have HH := Lib.hid (each_stand s stop R q1 q2 c1 c2 66 W.heap.size W1 w2 b3 b4 hS1 hb2 K1.out K2.out)
    obtain ⟨W4, hW4⟩ : ∃ W4, (((w2.alloc (.cells #[.slice q1 R.length c1] 36)).alloc (.cells #[.slice q2 R.length c2] 37)).alloc (.cells #[.string s] 9)).alloc (.cells #[.func (.func 59) #[] #[.pointer (some ⟨w2.heap.size + 1 + 1, 0, none⟩)]] 66) = W4 := ⟨_, rfl⟩
    rw [hW4] at HH
    have HT : Hid (W4.heap.size = w2.heap.size + 1 + 1 + 1 + 1) := Lib.hid (by rw [← hW4]; simp)
    have HB4 : Hid (Below W.heap.size W W4) := by
      refine Lib.hid ?_
      rw [← hW4]
      have h := HB1.out.trans (hb2.mono (by omega))
      exact (((h.alloc (by omega) _).alloc (by simp; omega) _).alloc (by simp; omega) _).alloc (by simp; omega) _
    clear b3 b4 hb2 K1 K2 HEL HRun HRt
  all_goals
    obtain ⟨t7, h7⟩ := HH.out.b7
    have c7 := h7.cell
    have heq := eql_nilFunc
    gi_wp2
    clear hW4 c7 heq
    refine wpIn_loop_rounds 3 ?_
    rw [roundsIn_succ]
    have c7 := ((h7.alloc (.cells #[.int .i64 0] 3)).alloc (.cells #[.int .i64 0] 3)).cell
    have B8 := (Boxed.new W4 3 (.int .i64 0)).alloc (.cells #[.int .i64 0] 3)
    have B9 := Boxed.new (W4.alloc (.cells #[.int .i64 0] 3)) 3 (.int .i64 0)
    rw [World.size_alloc] at B9
    have hb6 := ((Below.refl W4.heap.size W4).alloc (Nat.le_refl _) (.cells #[.int .i64 0] 3)).alloc (by simp) (.cells #[.int .i64 0] 3)
    have hT6 : ((W4.alloc (.cells #[.int .i64 0] 3)).alloc (.cells #[.int .i64 0] 3)).heap.size = W4.heap.size + 2 := by simp
    have HB8 := Lib.hid B8
    have HB9 := Lib.hid B9
    have Hb6 := Lib.hid hb6
    have HT6 := Lib.hid hT6
    clear B8 B9 hb6 hT6
    gi_wp2
    clear c7
    obtain ⟨W6, hW6⟩ : ∃ W6, (W4.alloc (.cells #[.int .i64 0] 3)).alloc (.cells #[.int .i64 0] 3) = W6 := ⟨_, rfl⟩
    rw [hW6] at HB8 HB9 Hb6 HT6 ⊢
    clear hW6
    rw [← HT.out] at HH
    clear h7
    have s6 := HT6.out
    have hHold := fun (W' : World) (hb : Below W4.heap.size W4 W') => HH.out.below hb
    have HHold := Lib.hid hHold
    clear hHold
    obtain ⟨B5, hB5⟩ : ∃ B5, w2.heap.size = B5 := ⟨_, rfl⟩
    obtain ⟨b0, hb0⟩ : ∃ b0, W.heap.size = b0 := ⟨_, rfl⟩
    obtain ⟨k, hkk⟩ : ∃ k, R.length = k := ⟨_, rfl⟩
    have HK := Lib.hid hkk
    have HB0 := Lib.hid hb0
    rw [hB5, hb0] at HHold
    rw [hB5] at HT
    rw [hkk] at hk HE
    rw [hB5, hb0]
    try rw [hkk]
    clear HH hB5 hb0 hkk
    have h6 := HHold.out W6 Hb6.out
    have hI : OwnFrom W6.heap.size (fun (pre : List Rn) Wx => (Boxed Wx (W4.heap.size + 1) 3 (.int .i64 (pre.length : Int)) ∧ Boxed Wx W4.heap.size 3 (.int .i64 0)) ∧ Below W4.heap.size W4 Wx) :=
      OwnFrom.and (OwnFrom.and (Own.from (boxed_own _ _ _) _) (Own.from (boxed_own _ _ _) _)) (ownFrom_below (Nat.le_refl _) (by omega))
    apply range_eachH (w := W6) (n := 9) (id := 2) (R := R) rfl (by omega) (gf := 59) (lb := #[.pointer (some ⟨B5 + 1 + 1, 0, none⟩)]) rfl trivial (enters_of Try.func59 (by kernel_rfl) rfl)
      (HE.out 8 (by omega) (B5 + 1 + 1) W6 h6.bs.cell h6.bs.lt) rfl
      (fun pre Wx => (Boxed Wx (W4.heap.size + 1) 3 (.int .i64 (pre.length : Int)) ∧ Boxed Wx W4.heap.size 3 (.int .i64 0)) ∧ Below W4.heap.size W4 Wx)
      (fun pre Wx => (pre.length : Int) = stop ∧ (Boxed Wx (W4.heap.size + 1) 3 (.int .i64 (pre.length : Int)) ∧ Boxed Wx W4.heap.size 3 (.int .i64 0)) ∧ Below W4.heap.size W4 Wx)
      hI (OwnFrom.and (ownFrom_pure _ _) hI)
      ⟨⟨HB9.out, HB8.out⟩, Hb6.out⟩
    case hassign =>
      intro l x Wx K hK
      dsimp only [encE]
      gi_wp2
      exact hK
    case hbody =>
      rintro l pre x Wx _ _ ⟨⟨b9, b8⟩, hB⟩ hlt
      have H := HHold.out Wx hB
      have c3 := H.b3.cell
      have c4 := H.b4.cell
      have f4 := H.b4.frozen
      have c5 := H.b5.cell
      have c6 := H.b6.cell
      have c8 := b8.cell
      have c9 := b9.cell
      have f9 := b9.frozen
      have hlt2 : pre.length < R.length := by rw [HK.out]; exact hlt
      obtain ⟨g1, rfl, hg1, d1⟩ := H.r1 pre.length hlt2
      obtain ⟨g2, rfl, hg2, d2⟩ := H.r2 pre.length hlt2
      rw [HK.out] at c5 c6
      have HH2 := Lib.hid H
      obtain ⟨i, hi⟩ : ∃ i, pre.length = i := ⟨_, rfl⟩
      have HI := Lib.hid hi
      obtain ⟨y, hy⟩ : ∃ y, R[pre.length] = y := ⟨_, rfl⟩
      have HY := Lib.hid (show R[pre.length]? = some y by rw [List.getElem?_eq_getElem hlt2, hy])
      rw [hy] at d1 d2
      rw [hi] at c9 d1 d2 hlt
      have HB := Lib.hid hB
      have Hb8 := Lib.hid b8
      have Hb9 := Lib.hid b9
      have l0 := H.l0
      clear H hB b8 b9 hi hy hlt2
      have hge : ¬ (k : Int) ≤ (i : Int) := by omega
      by_cases hgood : x.1 = y
      · have e1 : (x.1.1 : Int) = (y.1 : Int) := by rw [hgood]
        have e2 : (x.1.2 : Int) = (y.2 : Int) := by rw [hgood]
        rw [e1, e2]
        have b9' := Hb9.out.set (.int .i64 ((i : Int) + 1))
        have c9' := b9'.cell
        have c3' := (HH2.out.b3.other (show b0 ≠ W4.heap.size + 1 by omega) (.int .i64 ((i : Int) + 1))).cell
        have b8' := Hb8.out.other (show W4.heap.size ≠ W4.heap.size + 1 by omega) (.int .i64 ((i : Int) + 1))
        have c8' := b8'.cell
        have hB' := Lib.hid (HB.out.setCell (p := ⟨W4.heap.size + 1, 0, none⟩) (by simp) (.int .i64 ((i : Int) + 1)))
        have hll : ((pre ++ [x]).length : Int) = (i : Int) + 1 := by rw [List.length_append, HI.out]; rfl
        have Hb9' := Lib.hid b9'
        have Hb8' := Lib.hid b8'
        have Hll := Lib.hid hll
        clear b9' b8' hll
        by_cases hs : (i : Int) + 1 = stop
        · have hs' : ((i : Int) + 1 == stop) = true := by rw [beq_iff_eq]; exact hs
          have HS := Lib.hid hs
          clear hs
          gi_wp2
          exact ⟨(KeepsOthers.setCell _ _ _).from _, .inr ⟨rfl, Hll.out.trans HS.out, ⟨by rw [Hll.out]; exact Hb9'.out, Hb8'.out⟩, hB'.out⟩⟩
        · have hs' : ((i : Int) + 1 == stop) = false := by rw [beq_eq_false_iff_ne]; exact hs
          gi_wp2
          exact ⟨(KeepsOthers.setCell _ _ _).from _, KeepsWalks.setCell _ _ _, ⟨by rw [Hll.out]; exact Hb9'.out, Hb8'.out⟩, hB'.out⟩
      · have hnp : Hid (¬ fsts (pre ++ [x]) <+: R) := Lib.hid (not_prefix HY.out hgood)
        have hne : ¬ ((x.1.2 : Int) = (y.2 : Int)) ∨ ((x.1.2 : Int) = (y.2 : Int)) ∧ ¬ ((x.1.1 : Int) = (y.1 : Int)) := by
          by_cases h2 : x.1.2 = y.2
          · right
            refine ⟨by rw [h2], fun h1 => hgood ?_⟩
            have h1' : x.1.1 = y.1 := by omega
            rw [Prod.ext_iff]
            exact ⟨h1', h2⟩
          · left
            omega
        rcases hne with h1 | ⟨h1, h2⟩
        · have e1 : ((x.1.2 : Int) != (y.2 : Int)) = true := by rw [bne_iff_ne]; exact h1
          gi_wp2
          exact ⟨(KeepsOthers.setCell _ _ _).from _, .inl ⟨rfl, hnp.out⟩⟩
        · rw [h1]
          have e1 : ((x.1.1 : Int) != (y.1 : Int)) = true := by rw [bne_iff_ne]; exact h2
          gi_wp2
          exact ⟨(KeepsOthers.setCell _ _ _).from _, .inl ⟨rfl, hnp.out⟩⟩
    case hgo =>
      rintro D1 pre Wx hD1 hpre hK1
      obtain ⟨hj, ⟨b9, b8⟩, hB⟩ : (pre.length = k ∨ (pre.length : Int) = stop) ∧ (Boxed Wx (W4.heap.size + 1) 3 (.int .i64 (pre.length : Int)) ∧ Boxed Wx W4.heap.size 3 (.int .i64 0)) ∧ Below W4.heap.size W4 Wx := by
        rcases hpre with ⟨e, h⟩ | ⟨e, h⟩
        · exact ⟨.inl (by rw [← fsts_len, e, HK.out]), h⟩
        · exact ⟨.inr e, h⟩
      obtain ⟨j, hj'⟩ : ∃ j, pre.length = j := ⟨_, rfl⟩
      rw [hj'] at hj b9
      have H := HHold.out Wx hB
      have c3 := H.b3.cell
      have c5 := H.b5.cell
      have c8 := b8.cell
      have c9 := b9.cell
      rw [HK.out] at c5
      have HB := Lib.hid hB
      have HK1 := Lib.hid hK1
      have HD1' : Hid (W4.heap.size ≤ D1) := Lib.hid (by have := HT6.out; omega)
      have n8 := Boxed.new Wx 3 (.int .i64 1)
      clear H hB b8 b9 hj' hpre hK1 hD1 hI h6 HB8 HB9 Hb6 HT6 s6 HT
      by_cases hjk : j = k
      · obtain rfl : k = j := hjk.symm
        clear hj hjk
        gi_wp2
        clear c3 c5 c8 c9
        rw [roundsIn_succ]
        have Hsb := Lib.hid HB.out.size
        have Hb6 := Lib.hid (((Below.refl Wx.heap.size Wx).alloc (Nat.le_refl _) (.cells #[.int .i64 1] 3)).alloc (by simp) (.cells #[.int .i64 0] 3))
        obtain ⟨t7, h7⟩ := (HHold.out _ (HB.out.trans (Hb6.out.mono Hsb.out))).b7
        have c7 := h7.cell
        have c8 := n8.cell
        have HB8 := Lib.hid (n8.alloc (.cells #[.int .i64 0] 3))
        have B9 := Boxed.new (Wx.alloc (.cells #[.int .i64 1] 3)) 3 (.int .i64 0)
        rw [World.size_alloc] at B9
        have HB9 := Lib.hid B9
        have HT6 : Hid (((Wx.alloc (.cells #[.int .i64 1] 3)).alloc (.cells #[.int .i64 0] 3)).heap.size = Wx.heap.size + 2) := Lib.hid (by simp)
        clear n8 B9 h7
        gi_wp2
        clear c7 c8
        obtain ⟨V6, hV6⟩ : ∃ V6, (Wx.alloc (.cells #[.int .i64 1] 3)).alloc (.cells #[.int .i64 0] 3) = V6 := ⟨_, rfl⟩
        rw [hV6] at HB8 HB9 Hb6 HT6 ⊢
        clear hV6
        have h6 := HHold.out V6 (HB.out.trans (Hb6.out.mono Hsb.out))
        have s6 := HT6.out
        have hI : OwnFrom V6.heap.size (fun (pre : List Rn) Vx => (Boxed Vx (Wx.heap.size + 1) 3 (.int .i64 (pre.length : Int)) ∧ Boxed Vx Wx.heap.size 3 (.int .i64 1)) ∧ Below Wx.heap.size Wx Vx) :=
          OwnFrom.and (OwnFrom.and (Own.from (boxed_own _ _ _) _) (Own.from (boxed_own _ _ _) _)) (ownFrom_below (Nat.le_refl _) (by omega))
        apply range_eachH (w := V6) (n := 9) (id := 2) (R := R) rfl (by omega) (gf := 59) (lb := #[.pointer (some ⟨B5 + 1 + 1, 0, none⟩)]) rfl trivial (enters_of Try.func59 (by kernel_rfl) rfl)
          (HE.out 8 (by omega) (B5 + 1 + 1) V6 h6.bs.cell h6.bs.lt) rfl
          (fun pre Vx => (Boxed Vx (Wx.heap.size + 1) 3 (.int .i64 (pre.length : Int)) ∧ Boxed Vx Wx.heap.size 3 (.int .i64 1)) ∧ Below Wx.heap.size Wx Vx)
          (fun _ _ => False)
          hI (fun _ _ _ _ h _ _ => h)
          ⟨⟨HB9.out, HB8.out⟩, Hb6.out⟩
        case hassign =>
          intro l x Wx K hK
          dsimp only [encE]
          gi_wp2
          exact hK
        case hbody =>
          rintro l pre x Vx _ _ ⟨⟨b9, b8⟩, hB⟩ hlt
          have H := HHold.out Vx (HB.out.trans (hB.mono Hsb.out))
          have c4 := H.b4.cell
          have f4 := H.b4.frozen
          have c5 := H.b5.cell
          have c6 := H.b6.cell
          have c8 := b8.cell
          have c9 := b9.cell
          have f9 := b9.frozen
          have hlt2 : pre.length < R.length := by rw [HK.out]; exact hlt
          obtain ⟨g1, rfl, hg1, d1⟩ := H.r1 pre.length hlt2
          obtain ⟨g2, rfl, hg2, d2⟩ := H.r2 pre.length hlt2
          rw [HK.out] at c5 c6
          obtain ⟨i, hi⟩ : ∃ i, pre.length = i := ⟨_, rfl⟩
          have HI := Lib.hid hi
          obtain ⟨y, hy⟩ : ∃ y, R[pre.length] = y := ⟨_, rfl⟩
          have HY := Lib.hid (show R[pre.length]? = some y by rw [List.getElem?_eq_getElem hlt2, hy])
          rw [hy] at d1 d2
          rw [hi] at c9 d1 d2 hlt
          have HBv := Lib.hid hB
          have Hb8 := Lib.hid b8
          have Hb9 := Lib.hid b9
          have l0 := H.l0
          clear H hB b8 b9 hi hy hlt2
          have hge : ¬ (k : Int) ≤ (i : Int) := by omega
          by_cases hgood : x.1 = y
          · have e1 : (x.1.1 : Int) = (y.1 : Int) := by rw [hgood]
            have e2 : (x.1.2 : Int) = (y.2 : Int) := by rw [hgood]
            rw [e1, e2]
            have b9' := Hb9.out.set (.int .i64 ((i : Int) + 1))
            have c9' := b9'.cell
            have b8' := Hb8.out.other (show Wx.heap.size ≠ Wx.heap.size + 1 by omega) (.int .i64 ((i : Int) + 1))
            have c8' := b8'.cell
            have hB' := Lib.hid (HBv.out.setCell (p := ⟨Wx.heap.size + 1, 0, none⟩) (by simp) (.int .i64 ((i : Int) + 1)))
            have hll : ((pre ++ [x]).length : Int) = (i : Int) + 1 := by rw [List.length_append, HI.out]; rfl
            have Hb9' := Lib.hid b9'
            have Hb8' := Lib.hid b8'
            have Hll := Lib.hid hll
            clear b9' b8' hll
            gi_wp2
            exact ⟨(KeepsOthers.setCell _ _ _).from _, KeepsWalks.setCell _ _ _, ⟨by rw [Hll.out]; exact Hb9'.out, Hb8'.out⟩, hB'.out⟩
          · have hnp : Hid (¬ fsts (pre ++ [x]) <+: R) := Lib.hid (not_prefix HY.out hgood)
            rcases not_same hgood with h1 | ⟨h1, h2⟩
            · have e1 : ((x.1.2 : Int) != (y.2 : Int)) = true := by rw [bne_iff_ne]; exact h1
              gi_wp2
              exact ⟨(KeepsOthers.setCell _ _ _).from _, .inl ⟨rfl, hnp.out⟩⟩
            · rw [h1]
              have e1 : ((x.1.1 : Int) != (y.1 : Int)) = true := by rw [bne_iff_ne]; exact h2
              gi_wp2
              exact ⟨(KeepsOthers.setCell _ _ _).from _, .inl ⟨rfl, hnp.out⟩⟩
        case hgo =>
          rintro D2 pre Vx hD2 hpre hK2
          obtain ⟨hj, ⟨b9, b8⟩, hB⟩ : pre.length = k ∧ (Boxed Vx (Wx.heap.size + 1) 3 (.int .i64 (pre.length : Int)) ∧ Boxed Vx Wx.heap.size 3 (.int .i64 1)) ∧ Below Wx.heap.size Wx Vx := by
            rcases hpre with ⟨e, h⟩ | h
            · exact ⟨by rw [← fsts_len, e, HK.out], h⟩
            · exact h.elim
          rw [hj] at b9
          have hBT := HB.out.trans (hB.mono Hsb.out)
          have H := HHold.out Vx hBT
          have c5 := H.b5.cell
          have c8 := b8.cell
          have c9 := b9.cell
          rw [HK.out] at c5
          have hK1' := (hB.block D1 (Array.getElem?_eq_some_iff.1 HK1.out).1).trans HK1.out
          have hDD : D1 < D2 := by have := (Array.getElem?_eq_some_iff.1 HK1.out).1; omega
          have HDD := Lib.hid hDD
          have HBV := Lib.hid hBT
          have HK2 := Lib.hid hK2
          have HK1' := Lib.hid hK1'
          clear H hB hBT b8 b9 hpre hK2 hK1' hI h6 HB8 HB9 Hb6 HT6 s6 hDD
          gi_wp2
          clear c5 c8 c9
          rw [roundsIn_succ]
          have Hsv := Lib.hid HBV.out.size
          have Hb6 := Lib.hid (((Below.refl Vx.heap.size Vx).alloc (Nat.le_refl _) (.cells #[.int .i64 2] 3)).alloc (by simp) (.cells #[.int .i64 0] 3))
          obtain ⟨t7, h7⟩ := (HHold.out _ (HBV.out.trans (Hb6.out.mono Hsv.out))).b7
          have c7 := h7.cell
          have c8 := (Boxed.new Vx 3 (.int .i64 2)).cell
          have B9 := Boxed.new (Vx.alloc (.cells #[.int .i64 2] 3)) 3 (.int .i64 0)
          rw [World.size_alloc] at B9
          have HB9 := Lib.hid B9
          have HT6 : Hid (((Vx.alloc (.cells #[.int .i64 2] 3)).alloc (.cells #[.int .i64 0] 3)).heap.size = Vx.heap.size + 2) := Lib.hid (by simp)
          clear B9 h7
          gi_wp2
          clear c7 c8
          obtain ⟨U6, hU6⟩ : ∃ U6, (Vx.alloc (.cells #[.int .i64 2] 3)).alloc (.cells #[.int .i64 0] 3) = U6 := ⟨_, rfl⟩
          rw [hU6] at HB9 Hb6 HT6 ⊢
          clear hU6
          have h6 := HHold.out U6 (HBV.out.trans (Hb6.out.mono Hsv.out))
          have s6 := HT6.out
          have hI : OwnFrom U6.heap.size (fun (pre : List Rn) Ux => Boxed Ux (Vx.heap.size + 1) 3 (.int .i64 (pre.length : Int)) ∧ Below Vx.heap.size Vx Ux) :=
            OwnFrom.and (Own.from (boxed_own _ _ _) _) (ownFrom_below (Nat.le_refl _) (by omega))
          apply range_eachH (w := U6) (n := 9) (id := 4) (R := R) rfl (by omega) (gf := 59) (lb := #[.pointer (some ⟨B5 + 1 + 1, 0, none⟩)]) rfl trivial (enters_of Try.func59 (by kernel_rfl) rfl)
            (HE.out 8 (by omega) (B5 + 1 + 1) U6 h6.bs.cell h6.bs.lt) rfl
            (fun pre Ux => Boxed Ux (Vx.heap.size + 1) 3 (.int .i64 (pre.length : Int)) ∧ Below Vx.heap.size Vx Ux)
            (fun pre Ux => pre.length = 2 ∧ Boxed Ux (Vx.heap.size + 1) 3 (.int .i64 (pre.length : Int)) ∧ Below Vx.heap.size Vx Ux)
            hI (OwnFrom.and (ownFrom_pure _ _) hI)
            ⟨HB9.out, Hb6.out⟩
          case hassign =>
            intro l x Wx K hK
            dsimp only [encE]
            gi_wp2
            exact hK
          case hbody =>
            rintro l pre x Ux hl ⟨r, hr⟩ ⟨b12, hB⟩ hlt
            have hUT := HBV.out.trans (hB.mono Hsv.out)
            have HUT := Lib.hid hUT
            have Hsu := Lib.hid hUT.size
            have HBU := Lib.hid hB
            have Hb12 := Lib.hid b12
            have Hr := Lib.hid hr
            obtain ⟨t7, h7⟩ := (HHold.out _ (hUT.alloc Hsu.out (.cells #[.int .i64 0] 3))).b7
            have c7 := h7.cell
            have HB13 := Lib.hid (Boxed.new Ux 3 (.int .i64 0))
            clear h7 hUT hB b12 hr
            gi_wp2
            clear c7
            have Hl := Lib.hid ((Below.heap_alloc Ux (.cells #[.int .i64 0] 3) l (Array.getElem?_eq_some_iff.1 Hr.out).1).trans Hr.out)
            have Hu7 := Lib.hid ((Below.refl Ux.heap.size Ux).alloc (Nat.le_refl _) (.cells #[.int .i64 0] 3))
            have HT7 : Hid ((Ux.alloc (.cells #[.int .i64 0] 3)).heap.size = Ux.heap.size + 1) := Lib.hid (by simp)
            obtain ⟨U7, hU7⟩ : ∃ U7, Ux.alloc (.cells #[.int .i64 0] 3) = U7 := ⟨_, rfl⟩
            rw [hU7] at HB13 Hl Hu7 HT7 ⊢
            clear hU7
            have h7 := HHold.out U7 (HUT.out.trans (Hu7.out.mono Hsu.out))
            have s7 := HT7.out
            have hI7 : OwnFrom U7.heap.size (fun (pre : List Rn) Y => Boxed Y Ux.heap.size 3 (.int .i64 (pre.length : Int)) ∧ Below Ux.heap.size Ux Y) :=
              OwnFrom.and (Own.from (boxed_own _ _ _) _) (ownFrom_below (Nat.le_refl _) (by omega))
            apply range_eachN (F := Fence.wide.inRound l) (w := U7) (n := 7) (id := 6) (R := R) (l₀ := l) (r₀ := r) rfl Hl.out (by omega) (gf := 59) (lb := #[.pointer (some ⟨B5 + 1 + 1, 0, none⟩)]) rfl trivial (enters_of Try.func59 (by kernel_rfl) rfl)
              ((HE.out 6 (by omega) (B5 + 1 + 1) U7 h7.bs.cell h7.bs.lt).inRound l) rfl
              (fun pre Y => Boxed Y Ux.heap.size 3 (.int .i64 (pre.length : Int)) ∧ Below Ux.heap.size Ux Y)
              (fun pre Y => pre.length = 3 ∧ Boxed Y Ux.heap.size 3 (.int .i64 (pre.length : Int)) ∧ Below Ux.heap.size Ux Y)
              hI7 (OwnFrom.and (ownFrom_pure _ _) hI7)
              ⟨HB13.out, Hu7.out⟩
            case hassign =>
              intro l x Wx K hK
              dsimp only [encE]
              gi_wp2
              exact hK
            case hbody =>
              rintro l2 pre x Y _ _ ⟨b9, hB⟩ hlt
              have H := HHold.out Y (HUT.out.trans (hB.mono Hsu.out))
              have c4 := H.b4.cell
              have f4 := H.b4.frozen
              have c5 := H.b5.cell
              have c6 := H.b6.cell
              have c9 := b9.cell
              have f9 := b9.frozen
              have hlt2 : pre.length < R.length := by rw [HK.out]; exact hlt
              obtain ⟨g1, rfl, hg1, d1⟩ := H.r1 pre.length hlt2
              obtain ⟨g2, rfl, hg2, d2⟩ := H.r2 pre.length hlt2
              rw [HK.out] at c5 c6
              obtain ⟨i, hi⟩ : ∃ i, pre.length = i := ⟨_, rfl⟩
              have HI := Lib.hid hi
              obtain ⟨y, hy⟩ : ∃ y, R[pre.length] = y := ⟨_, rfl⟩
              have HY := Lib.hid (show R[pre.length]? = some y by rw [List.getElem?_eq_getElem hlt2, hy])
              rw [hy] at d1 d2
              rw [hi] at c9 d1 d2 hlt
              have HBy := Lib.hid hB
              have Hb9 := Lib.hid b9
              have l0 := H.l0
              clear H hB b9 hi hy hlt2
              have hge : ¬ (k : Int) ≤ (i : Int) := by omega
              by_cases hgood : x.1 = y
              · have e1 : (x.1.1 : Int) = (y.1 : Int) := by rw [hgood]
                have e2 : (x.1.2 : Int) = (y.2 : Int) := by rw [hgood]
                rw [e1, e2]
                have b9' := Hb9.out.set (.int .i64 ((i : Int) + 1))
                have c9' := b9'.cell
                have hB' := Lib.hid (HBy.out.setCell (p := ⟨Ux.heap.size, 0, none⟩) (Nat.le_refl _) (.int .i64 ((i : Int) + 1)))
                have hll : ((pre ++ [x]).length : Int) = (i : Int) + 1 := by rw [List.length_append, HI.out]; rfl
                have hl2 : (pre ++ [x]).length = i + 1 := by rw [List.length_append, HI.out]; rfl
                have Hb9' := Lib.hid b9'
                have Hll := Lib.hid hll
                have Hl2 := Lib.hid hl2
                clear b9' hll hl2
                by_cases hs : i = 2
                · have HS := Lib.hid hs
                  have hs' : ((i : Int) + 1 == 3) = true := by rw [beq_iff_eq]; omega
                  clear hs
                  gi_wp2
                  exact ⟨(KeepsOthers.setCell _ _ _).from _, .inr ⟨rfl, by rw [Hl2.out, HS.out], by rw [Hll.out]; exact Hb9'.out, hB'.out⟩⟩
                · have hs' : ((i : Int) + 1 == 3) = false := by rw [beq_eq_false_iff_ne]; omega
                  gi_wp2
                  exact ⟨(KeepsOthers.setCell _ _ _).from _, KeepsWalks.setCell _ _ _, by rw [Hll.out]; exact Hb9'.out, hB'.out⟩
              · have hnp : Hid (¬ fsts (pre ++ [x]) <+: R) := Lib.hid (not_prefix HY.out hgood)
                rcases not_same hgood with h1 | ⟨h1, h2⟩
                · have e1 : ((x.1.2 : Int) != (y.2 : Int)) = true := by rw [bne_iff_ne]; exact h1
                  gi_wp2
                  exact ⟨(KeepsOthers.setCell _ _ _).from _, .inl ⟨rfl, hnp.out⟩⟩
                · rw [h1]
                  have e1 : ((x.1.1 : Int) != (y.1 : Int)) = true := by rw [bne_iff_ne]; exact h2
                  gi_wp2
                  exact ⟨(KeepsOthers.setCell _ _ _).from _, .inl ⟨rfl, hnp.out⟩⟩
            case hgo =>
              rintro pre' Y hpre
              obtain ⟨_, hB⟩ : Boxed Y Ux.heap.size 3 (.int .i64 (pre'.length : Int)) ∧ Below Ux.heap.size Ux Y := by
                rcases hpre with ⟨_, h⟩ | ⟨_, h⟩
                · exact h
                · exact h
              have HB := Lib.hid hB
              have b12 : Boxed Y (Vx.heap.size + 1) 3 (.int .i64 (pre.length : Int)) := (hB.block _ Hb12.out.lt).trans Hb12.out
              obtain ⟨i, hi⟩ : ∃ i, pre.length = i := ⟨_, rfl⟩
              have HI := Lib.hid hi
              rw [hi] at b12 hlt
              have c12 := b12.cell
              have f12 := b12.frozen
              have b12' := b12.set (.int .i64 ((i : Int) + 1))
              have c12' := b12'.cell
              have hB' := Lib.hid ((HBU.out.trans (hB.mono HBU.out.size)).setCell (p := ⟨Vx.heap.size + 1, 0, none⟩) (by simp) (.int .i64 ((i : Int) + 1)))
              have hll : ((pre ++ [x]).length : Int) = (i : Int) + 1 := by rw [List.length_append, HI.out]; rfl
              have hl2 : (pre ++ [x]).length = i + 1 := by rw [List.length_append, HI.out]; rfl
              have HKF := Lib.hid ((keepsFrom_below U6.heap.size hB).trans ((KeepsOthers.setCell Y ⟨Vx.heap.size + 1, 0, none⟩ (.int .i64 ((i : Int) + 1))).from _))
              have HKW := Lib.hid ((keepsWalks_below hB).trans (KeepsWalks.setCell Y ⟨Vx.heap.size + 1, 0, none⟩ (.int .i64 ((i : Int) + 1))))
              have Hb12' := Lib.hid b12'
              have Hll := Lib.hid hll
              have Hl2 := Lib.hid hl2
              clear b12' hll hl2 hB b12 hi hpre hI7 h7 HB13 s7 HT7 h6 hI
              by_cases hs : i = 1
              · have HS := Lib.hid hs
                have hs' : ((i : Int) + 1 == 2) = true := by rw [beq_iff_eq]; omega
                clear hs
                gi_wp2
                exact ⟨HKF.out, .inr ⟨rfl, by rw [Hl2.out, HS.out], by rw [Hll.out]; exact Hb12'.out, hB'.out⟩⟩
              · have hs' : ((i : Int) + 1 == 2) = false := by rw [beq_eq_false_iff_ne]; omega
                gi_wp2
                exact ⟨HKF.out, HKW.out, by rw [Hll.out]; exact Hb12'.out, hB'.out⟩
          case hgo =>
            rintro D3 pre Ux hD3 hpre hK3
            obtain ⟨hj, b12, hB⟩ : (pre.length = k ∨ pre.length = 2) ∧ Boxed Ux (Vx.heap.size + 1) 3 (.int .i64 (pre.length : Int)) ∧ Below Vx.heap.size Vx Ux := by
              rcases hpre with ⟨e, h⟩ | ⟨e, h⟩
              · exact ⟨.inl (by rw [← fsts_len, e, HK.out]), h⟩
              · exact ⟨.inr e, h⟩
            have hUT := HBV.out.trans (hB.mono Hsv.out)
            have H := HHold.out Ux hUT
            obtain ⟨j, hjj⟩ : ∃ j, pre.length = j := ⟨_, rfl⟩
            rw [hjj] at hj b12
            have c4 := H.b4.cell
            have f4 := H.b4.frozen
            have c5 := H.b5.cell
            have c12 := b12.cell
            rw [HK.out] at c5
            have l0 := H.l0
            have hs4 := hUT.size
            have L1 := (Array.getElem?_eq_some_iff.1 HK1'.out).1
            have L2 := (Array.getElem?_eq_some_iff.1 HK2.out).1
            have HKa := Lib.hid ((hB.block D1 L1).trans HK1'.out)
            have HKb := Lib.hid ((hB.block D2 L2).trans HK2.out)
            have HKc := Lib.hid hK3
            have HLd := Lib.hid (show D1 < D2 ∧ D2 < D3 ∧ W4.heap.size ≤ D1 from ⟨HDD.out, by have := HT6.out; omega, HD1'.out⟩)
            have HUT := Lib.hid hUT
            clear H hUT hB b12 hjj hpre hK3 hI h6 HB9 Hb6 HT6 s6 L1 L2 hs4
            have hcase : ((j : Int) == 2) = true ∨ ((j : Int) == 2) = false ∧ ((j : Int) == (k : Int)) = true := by
              by_cases h : j = 2
              · left; rw [h]; rfl
              · right
                refine ⟨by rw [beq_eq_false_iff_ne]; omega, ?_⟩
                rcases hj with h' | h'
                · rw [h', beq_iff_eq]
                · exact absurd h' h
            rcases hcase with e1 | ⟨e1, e2⟩
            · gi_wp2
              exact each_ends Fence.wide 9 _ D1 D2 D3 b0 W Ux rfl (HHold.out Ux HUT.out).b4 HKa.out HKb.out HKc.out HLd.out.1 HLd.out.2.1 (by have := HB0.out; omega) (by have := HLd.out.2.2; omega) (HB4.out.trans (HUT.out.mono HB4.out.size))
            · gi_wp2
              exact each_ends Fence.wide 9 _ D1 D2 D3 b0 W Ux rfl (HHold.out Ux HUT.out).b4 HKa.out HKb.out HKc.out HLd.out.1 HLd.out.2.1 (by have := HB0.out; omega) (by have := HLd.out.2.2; omega) (HB4.out.trans (HUT.out.mono HB4.out.size))
      · have hst : (j : Int) = stop := hj.resolve_left hjk
        subst hst
        have e1 : ((j : Int) != (k : Int)) = true := by rw [bne_iff_ne]; omega
        clear hj
        gi_wp2
        clear c3 c5 c8 c9 e1 hjk
        rw [roundsIn_succ]
        have Hsb := Lib.hid HB.out.size
        have Hb6 := Lib.hid (((Below.refl Wx.heap.size Wx).alloc (Nat.le_refl _) (.cells #[.int .i64 1] 3)).alloc (by simp) (.cells #[.int .i64 0] 3))
        obtain ⟨t7, h7⟩ := (HHold.out _ (HB.out.trans (Hb6.out.mono Hsb.out))).b7
        have c7 := h7.cell
        have c8 := n8.cell
        have HB8 := Lib.hid (n8.alloc (.cells #[.int .i64 0] 3))
        have B9 := Boxed.new (Wx.alloc (.cells #[.int .i64 1] 3)) 3 (.int .i64 0)
        rw [World.size_alloc] at B9
        have HB9 := Lib.hid B9
        have HT6 : Hid (((Wx.alloc (.cells #[.int .i64 1] 3)).alloc (.cells #[.int .i64 0] 3)).heap.size = Wx.heap.size + 2) := Lib.hid (by simp)
        clear n8 B9 h7
        gi_wp2
        clear c7 c8
        obtain ⟨V6, hV6⟩ : ∃ V6, (Wx.alloc (.cells #[.int .i64 1] 3)).alloc (.cells #[.int .i64 0] 3) = V6 := ⟨_, rfl⟩
        rw [hV6] at HB8 HB9 Hb6 HT6 ⊢
        clear hV6
        have h6 := HHold.out V6 (HB.out.trans (Hb6.out.mono Hsb.out))
        have s6 := HT6.out
        have hI : OwnFrom V6.heap.size (fun (pre : List Rn) Vx => (Boxed Vx (Wx.heap.size + 1) 3 (.int .i64 (pre.length : Int)) ∧ Boxed Vx Wx.heap.size 3 (.int .i64 1)) ∧ Below Wx.heap.size Wx Vx) :=
          OwnFrom.and (OwnFrom.and (Own.from (boxed_own _ _ _) _) (Own.from (boxed_own _ _ _) _)) (ownFrom_below (Nat.le_refl _) (by omega))
        apply range_eachH (w := V6) (n := 9) (id := 2) (R := R) rfl (by omega) (gf := 59) (lb := #[.pointer (some ⟨B5 + 1 + 1, 0, none⟩)]) rfl trivial (enters_of Try.func59 (by kernel_rfl) rfl)
          (HE.out 8 (by omega) (B5 + 1 + 1) V6 h6.bs.cell h6.bs.lt) rfl
          (fun pre Vx => (Boxed Vx (Wx.heap.size + 1) 3 (.int .i64 (pre.length : Int)) ∧ Boxed Vx Wx.heap.size 3 (.int .i64 1)) ∧ Below Wx.heap.size Wx Vx)
          (fun _ _ => False)
          hI (fun _ _ _ _ h _ _ => h)
          ⟨⟨HB9.out, HB8.out⟩, Hb6.out⟩
        case hassign =>
          intro l x Wx K hK
          dsimp only [encE]
          gi_wp2
          exact hK
        case hbody =>
          rintro l pre x Vx _ _ ⟨⟨b9, b8⟩, hB⟩ hlt
          have H := HHold.out Vx (HB.out.trans (hB.mono Hsb.out))
          have c4 := H.b4.cell
          have f4 := H.b4.frozen
          have c5 := H.b5.cell
          have c6 := H.b6.cell
          have c8 := b8.cell
          have c9 := b9.cell
          have f9 := b9.frozen
          have hlt2 : pre.length < R.length := by rw [HK.out]; exact hlt
          obtain ⟨g1, rfl, hg1, d1⟩ := H.r1 pre.length hlt2
          obtain ⟨g2, rfl, hg2, d2⟩ := H.r2 pre.length hlt2
          rw [HK.out] at c5 c6
          obtain ⟨i, hi⟩ : ∃ i, pre.length = i := ⟨_, rfl⟩
          have HI := Lib.hid hi
          obtain ⟨y, hy⟩ : ∃ y, R[pre.length] = y := ⟨_, rfl⟩
          have HY := Lib.hid (show R[pre.length]? = some y by rw [List.getElem?_eq_getElem hlt2, hy])
          rw [hy] at d1 d2
          rw [hi] at c9 d1 d2 hlt
          have HBv := Lib.hid hB
          have Hb8 := Lib.hid b8
          have Hb9 := Lib.hid b9
          have l0 := H.l0
          clear H hB b8 b9 hi hy hlt2
          have hge : ¬ (k : Int) ≤ (i : Int) := by omega
          by_cases hgood : x.1 = y
          · have e1 : (x.1.1 : Int) = (y.1 : Int) := by rw [hgood]
            have e2 : (x.1.2 : Int) = (y.2 : Int) := by rw [hgood]
            rw [e1, e2]
            have b9' := Hb9.out.set (.int .i64 ((i : Int) + 1))
            have c9' := b9'.cell
            have b8' := Hb8.out.other (show Wx.heap.size ≠ Wx.heap.size + 1 by omega) (.int .i64 ((i : Int) + 1))
            have c8' := b8'.cell
            have hB' := Lib.hid (HBv.out.setCell (p := ⟨Wx.heap.size + 1, 0, none⟩) (by simp) (.int .i64 ((i : Int) + 1)))
            have hll : ((pre ++ [x]).length : Int) = (i : Int) + 1 := by rw [List.length_append, HI.out]; rfl
            have Hb9' := Lib.hid b9'
            have Hb8' := Lib.hid b8'
            have Hll := Lib.hid hll
            clear b9' b8' hll
            gi_wp2
            exact ⟨(KeepsOthers.setCell _ _ _).from _, KeepsWalks.setCell _ _ _, ⟨by rw [Hll.out]; exact Hb9'.out, Hb8'.out⟩, hB'.out⟩
          · have hnp : Hid (¬ fsts (pre ++ [x]) <+: R) := Lib.hid (not_prefix HY.out hgood)
            rcases not_same hgood with h1 | ⟨h1, h2⟩
            · have e1 : ((x.1.2 : Int) != (y.2 : Int)) = true := by rw [bne_iff_ne]; exact h1
              gi_wp2
              exact ⟨(KeepsOthers.setCell _ _ _).from _, .inl ⟨rfl, hnp.out⟩⟩
            · rw [h1]
              have e1 : ((x.1.1 : Int) != (y.1 : Int)) = true := by rw [bne_iff_ne]; exact h2
              gi_wp2
              exact ⟨(KeepsOthers.setCell _ _ _).from _, .inl ⟨rfl, hnp.out⟩⟩
        case hgo =>
          rintro D2 pre Vx hD2 hpre hK2
          obtain ⟨hj, ⟨b9, b8⟩, hB⟩ : pre.length = k ∧ (Boxed Vx (Wx.heap.size + 1) 3 (.int .i64 (pre.length : Int)) ∧ Boxed Vx Wx.heap.size 3 (.int .i64 1)) ∧ Below Wx.heap.size Wx Vx := by
            rcases hpre with ⟨e, h⟩ | h
            · exact ⟨by rw [← fsts_len, e, HK.out], h⟩
            · exact h.elim
          rw [hj] at b9
          have hBT := HB.out.trans (hB.mono Hsb.out)
          have H := HHold.out Vx hBT
          have c5 := H.b5.cell
          have c8 := b8.cell
          have c9 := b9.cell
          rw [HK.out] at c5
          have hK1' := (hB.block D1 (Array.getElem?_eq_some_iff.1 HK1.out).1).trans HK1.out
          have hDD : D1 < D2 := by have := (Array.getElem?_eq_some_iff.1 HK1.out).1; omega
          have HDD := Lib.hid hDD
          have HBV := Lib.hid hBT
          have HK2 := Lib.hid hK2
          have HK1' := Lib.hid hK1'
          clear H hB hBT b8 b9 hpre hK2 hK1' hI h6 HB8 HB9 Hb6 HT6 s6 hDD
          gi_wp2
          clear c5 c8 c9
          rw [roundsIn_succ]
          have Hsv := Lib.hid HBV.out.size
          have Hb6 := Lib.hid (((Below.refl Vx.heap.size Vx).alloc (Nat.le_refl _) (.cells #[.int .i64 2] 3)).alloc (by simp) (.cells #[.int .i64 0] 3))
          obtain ⟨t7, h7⟩ := (HHold.out _ (HBV.out.trans (Hb6.out.mono Hsv.out))).b7
          have c7 := h7.cell
          have c8 := (Boxed.new Vx 3 (.int .i64 2)).cell
          have B9 := Boxed.new (Vx.alloc (.cells #[.int .i64 2] 3)) 3 (.int .i64 0)
          rw [World.size_alloc] at B9
          have HB9 := Lib.hid B9
          have HT6 : Hid (((Vx.alloc (.cells #[.int .i64 2] 3)).alloc (.cells #[.int .i64 0] 3)).heap.size = Vx.heap.size + 2) := Lib.hid (by simp)
          clear B9 h7
          gi_wp2
          clear c7 c8
          obtain ⟨U6, hU6⟩ : ∃ U6, (Vx.alloc (.cells #[.int .i64 2] 3)).alloc (.cells #[.int .i64 0] 3) = U6 := ⟨_, rfl⟩
          rw [hU6] at HB9 Hb6 HT6 ⊢
          clear hU6
          have h6 := HHold.out U6 (HBV.out.trans (Hb6.out.mono Hsv.out))
          have s6 := HT6.out
          have hI : OwnFrom U6.heap.size (fun (pre : List Rn) Ux => Boxed Ux (Vx.heap.size + 1) 3 (.int .i64 (pre.length : Int)) ∧ Below Vx.heap.size Vx Ux) :=
            OwnFrom.and (Own.from (boxed_own _ _ _) _) (ownFrom_below (Nat.le_refl _) (by omega))
          apply range_eachH (w := U6) (n := 9) (id := 4) (R := R) rfl (by omega) (gf := 59) (lb := #[.pointer (some ⟨B5 + 1 + 1, 0, none⟩)]) rfl trivial (enters_of Try.func59 (by kernel_rfl) rfl)
            (HE.out 8 (by omega) (B5 + 1 + 1) U6 h6.bs.cell h6.bs.lt) rfl
            (fun pre Ux => Boxed Ux (Vx.heap.size + 1) 3 (.int .i64 (pre.length : Int)) ∧ Below Vx.heap.size Vx Ux)
            (fun pre Ux => pre.length = 2 ∧ Boxed Ux (Vx.heap.size + 1) 3 (.int .i64 (pre.length : Int)) ∧ Below Vx.heap.size Vx Ux)
            hI (OwnFrom.and (ownFrom_pure _ _) hI)
            ⟨HB9.out, Hb6.out⟩
          case hassign =>
            intro l x Wx K hK
            dsimp only [encE]
            gi_wp2
            exact hK
          case hbody =>
            rintro l pre x Ux hl ⟨r, hr⟩ ⟨b12, hB⟩ hlt
            have hUT := HBV.out.trans (hB.mono Hsv.out)
            have HUT := Lib.hid hUT
            have Hsu := Lib.hid hUT.size
            have HBU := Lib.hid hB
            have Hb12 := Lib.hid b12
            have Hr := Lib.hid hr
            obtain ⟨t7, h7⟩ := (HHold.out _ (hUT.alloc Hsu.out (.cells #[.int .i64 0] 3))).b7
            have c7 := h7.cell
            have HB13 := Lib.hid (Boxed.new Ux 3 (.int .i64 0))
            clear h7 hUT hB b12 hr
            gi_wp2
            clear c7
            have Hl := Lib.hid ((Below.heap_alloc Ux (.cells #[.int .i64 0] 3) l (Array.getElem?_eq_some_iff.1 Hr.out).1).trans Hr.out)
            have Hu7 := Lib.hid ((Below.refl Ux.heap.size Ux).alloc (Nat.le_refl _) (.cells #[.int .i64 0] 3))
            have HT7 : Hid ((Ux.alloc (.cells #[.int .i64 0] 3)).heap.size = Ux.heap.size + 1) := Lib.hid (by simp)
            obtain ⟨U7, hU7⟩ : ∃ U7, Ux.alloc (.cells #[.int .i64 0] 3) = U7 := ⟨_, rfl⟩
            rw [hU7] at HB13 Hl Hu7 HT7 ⊢
            clear hU7
            have h7 := HHold.out U7 (HUT.out.trans (Hu7.out.mono Hsu.out))
            have s7 := HT7.out
            have hI7 : OwnFrom U7.heap.size (fun (pre : List Rn) Y => Boxed Y Ux.heap.size 3 (.int .i64 (pre.length : Int)) ∧ Below Ux.heap.size Ux Y) :=
              OwnFrom.and (Own.from (boxed_own _ _ _) _) (ownFrom_below (Nat.le_refl _) (by omega))
            apply range_eachN (F := Fence.wide.inRound l) (w := U7) (n := 7) (id := 6) (R := R) (l₀ := l) (r₀ := r) rfl Hl.out (by omega) (gf := 59) (lb := #[.pointer (some ⟨B5 + 1 + 1, 0, none⟩)]) rfl trivial (enters_of Try.func59 (by kernel_rfl) rfl)
              ((HE.out 6 (by omega) (B5 + 1 + 1) U7 h7.bs.cell h7.bs.lt).inRound l) rfl
              (fun pre Y => Boxed Y Ux.heap.size 3 (.int .i64 (pre.length : Int)) ∧ Below Ux.heap.size Ux Y)
              (fun pre Y => pre.length = 3 ∧ Boxed Y Ux.heap.size 3 (.int .i64 (pre.length : Int)) ∧ Below Ux.heap.size Ux Y)
              hI7 (OwnFrom.and (ownFrom_pure _ _) hI7)
              ⟨HB13.out, Hu7.out⟩
            case hassign =>
              intro l x Wx K hK
              dsimp only [encE]
              gi_wp2
              exact hK
            case hbody =>
              rintro l2 pre x Y _ _ ⟨b9, hB⟩ hlt
              have H := HHold.out Y (HUT.out.trans (hB.mono Hsu.out))
              have c4 := H.b4.cell
              have f4 := H.b4.frozen
              have c5 := H.b5.cell
              have c6 := H.b6.cell
              have c9 := b9.cell
              have f9 := b9.frozen
              have hlt2 : pre.length < R.length := by rw [HK.out]; exact hlt
              obtain ⟨g1, rfl, hg1, d1⟩ := H.r1 pre.length hlt2
              obtain ⟨g2, rfl, hg2, d2⟩ := H.r2 pre.length hlt2
              rw [HK.out] at c5 c6
              obtain ⟨i, hi⟩ : ∃ i, pre.length = i := ⟨_, rfl⟩
              have HI := Lib.hid hi
              obtain ⟨y, hy⟩ : ∃ y, R[pre.length] = y := ⟨_, rfl⟩
              have HY := Lib.hid (show R[pre.length]? = some y by rw [List.getElem?_eq_getElem hlt2, hy])
              rw [hy] at d1 d2
              rw [hi] at c9 d1 d2 hlt
              have HBy := Lib.hid hB
              have Hb9 := Lib.hid b9
              have l0 := H.l0
              clear H hB b9 hi hy hlt2
              have hge : ¬ (k : Int) ≤ (i : Int) := by omega
              by_cases hgood : x.1 = y
              · have e1 : (x.1.1 : Int) = (y.1 : Int) := by rw [hgood]
                have e2 : (x.1.2 : Int) = (y.2 : Int) := by rw [hgood]
                rw [e1, e2]
                have b9' := Hb9.out.set (.int .i64 ((i : Int) + 1))
                have c9' := b9'.cell
                have hB' := Lib.hid (HBy.out.setCell (p := ⟨Ux.heap.size, 0, none⟩) (Nat.le_refl _) (.int .i64 ((i : Int) + 1)))
                have hll : ((pre ++ [x]).length : Int) = (i : Int) + 1 := by rw [List.length_append, HI.out]; rfl
                have hl2 : (pre ++ [x]).length = i + 1 := by rw [List.length_append, HI.out]; rfl
                have Hb9' := Lib.hid b9'
                have Hll := Lib.hid hll
                have Hl2 := Lib.hid hl2
                clear b9' hll hl2
                by_cases hs : i = 2
                · have HS := Lib.hid hs
                  have hs' : ((i : Int) + 1 == 3) = true := by rw [beq_iff_eq]; omega
                  clear hs
                  gi_wp2
                  exact ⟨(KeepsOthers.setCell _ _ _).from _, .inr ⟨rfl, by rw [Hl2.out, HS.out], by rw [Hll.out]; exact Hb9'.out, hB'.out⟩⟩
                · have hs' : ((i : Int) + 1 == 3) = false := by rw [beq_eq_false_iff_ne]; omega
                  gi_wp2
                  exact ⟨(KeepsOthers.setCell _ _ _).from _, KeepsWalks.setCell _ _ _, by rw [Hll.out]; exact Hb9'.out, hB'.out⟩
              · have hnp : Hid (¬ fsts (pre ++ [x]) <+: R) := Lib.hid (not_prefix HY.out hgood)
                rcases not_same hgood with h1 | ⟨h1, h2⟩
                · have e1 : ((x.1.2 : Int) != (y.2 : Int)) = true := by rw [bne_iff_ne]; exact h1
                  gi_wp2
                  exact ⟨(KeepsOthers.setCell _ _ _).from _, .inl ⟨rfl, hnp.out⟩⟩
                · rw [h1]
                  have e1 : ((x.1.1 : Int) != (y.1 : Int)) = true := by rw [bne_iff_ne]; exact h2
                  gi_wp2
                  exact ⟨(KeepsOthers.setCell _ _ _).from _, .inl ⟨rfl, hnp.out⟩⟩
            case hgo =>
              rintro pre' Y hpre
              obtain ⟨_, hB⟩ : Boxed Y Ux.heap.size 3 (.int .i64 (pre'.length : Int)) ∧ Below Ux.heap.size Ux Y := by
                rcases hpre with ⟨_, h⟩ | ⟨_, h⟩
                · exact h
                · exact h
              have HB := Lib.hid hB
              have b12 : Boxed Y (Vx.heap.size + 1) 3 (.int .i64 (pre.length : Int)) := (hB.block _ Hb12.out.lt).trans Hb12.out
              obtain ⟨i, hi⟩ : ∃ i, pre.length = i := ⟨_, rfl⟩
              have HI := Lib.hid hi
              rw [hi] at b12 hlt
              have c12 := b12.cell
              have f12 := b12.frozen
              have b12' := b12.set (.int .i64 ((i : Int) + 1))
              have c12' := b12'.cell
              have hB' := Lib.hid ((HBU.out.trans (hB.mono HBU.out.size)).setCell (p := ⟨Vx.heap.size + 1, 0, none⟩) (by simp) (.int .i64 ((i : Int) + 1)))
              have hll : ((pre ++ [x]).length : Int) = (i : Int) + 1 := by rw [List.length_append, HI.out]; rfl
              have hl2 : (pre ++ [x]).length = i + 1 := by rw [List.length_append, HI.out]; rfl
              have HKF := Lib.hid ((keepsFrom_below U6.heap.size hB).trans ((KeepsOthers.setCell Y ⟨Vx.heap.size + 1, 0, none⟩ (.int .i64 ((i : Int) + 1))).from _))
              have HKW := Lib.hid ((keepsWalks_below hB).trans (KeepsWalks.setCell Y ⟨Vx.heap.size + 1, 0, none⟩ (.int .i64 ((i : Int) + 1))))
              have Hb12' := Lib.hid b12'
              have Hll := Lib.hid hll
              have Hl2 := Lib.hid hl2
              clear b12' hll hl2 hB b12 hi hpre hI7 h7 HB13 s7 HT7 h6 hI
              by_cases hs : i = 1
              · have HS := Lib.hid hs
                have hs' : ((i : Int) + 1 == 2) = true := by rw [beq_iff_eq]; omega
                clear hs
                gi_wp2
                exact ⟨HKF.out, .inr ⟨rfl, by rw [Hl2.out, HS.out], by rw [Hll.out]; exact Hb12'.out, hB'.out⟩⟩
              · have hs' : ((i : Int) + 1 == 2) = false := by rw [beq_eq_false_iff_ne]; omega
                gi_wp2
                exact ⟨HKF.out, HKW.out, by rw [Hll.out]; exact Hb12'.out, hB'.out⟩
          case hgo =>
            rintro D3 pre Ux hD3 hpre hK3
            obtain ⟨hj, b12, hB⟩ : (pre.length = k ∨ pre.length = 2) ∧ Boxed Ux (Vx.heap.size + 1) 3 (.int .i64 (pre.length : Int)) ∧ Below Vx.heap.size Vx Ux := by
              rcases hpre with ⟨e, h⟩ | ⟨e, h⟩
              · exact ⟨.inl (by rw [← fsts_len, e, HK.out]), h⟩
              · exact ⟨.inr e, h⟩
            have hUT := HBV.out.trans (hB.mono Hsv.out)
            have H := HHold.out Ux hUT
            obtain ⟨j, hjj⟩ : ∃ j, pre.length = j := ⟨_, rfl⟩
            rw [hjj] at hj b12
            have c4 := H.b4.cell
            have f4 := H.b4.frozen
            have c5 := H.b5.cell
            have c12 := b12.cell
            rw [HK.out] at c5
            have l0 := H.l0
            have hs4 := hUT.size
            have L1 := (Array.getElem?_eq_some_iff.1 HK1'.out).1
            have L2 := (Array.getElem?_eq_some_iff.1 HK2.out).1
            have HKa := Lib.hid ((hB.block D1 L1).trans HK1'.out)
            have HKb := Lib.hid ((hB.block D2 L2).trans HK2.out)
            have HKc := Lib.hid hK3
            have HLd := Lib.hid (show D1 < D2 ∧ D2 < D3 ∧ W4.heap.size ≤ D1 from ⟨HDD.out, by have := HT6.out; omega, HD1'.out⟩)
            have HUT := Lib.hid hUT
            clear H hUT hB b12 hjj hpre hK3 hI h6 HB9 Hb6 HT6 s6 L1 L2 hs4
            have hcase : ((j : Int) == 2) = true ∨ ((j : Int) == 2) = false ∧ ((j : Int) == (k : Int)) = true := by
              by_cases h : j = 2
              · left; rw [h]; rfl
              · right
                refine ⟨by rw [beq_eq_false_iff_ne]; omega, ?_⟩
                rcases hj with h' | h'
                · rw [h', beq_iff_eq]
                · exact absurd h' h
            rcases hcase with e1 | ⟨e1, e2⟩
            · gi_wp2
              exact each_ends Fence.wide 9 _ D1 D2 D3 b0 W Ux rfl (HHold.out Ux HUT.out).b4 HKa.out HKb.out HKc.out HLd.out.1 HLd.out.2.1 (by have := HB0.out; omega) (by have := HLd.out.2.2; omega) (HB4.out.trans (HUT.out.mono HB4.out.size))
            · gi_wp2
              exact each_ends Fence.wide 9 _ D1 D2 D3 b0 W Ux rfl (HHold.out Ux HUT.out).b4 HKa.out HKb.out HKc.out HLd.out.1 HLd.out.2.1 (by have := HB0.out; omega) (by have := HLd.out.2.2; omega) (HB4.out.trans (HUT.out.mono HB4.out.size))
end Go.Proofs.Ytjbhehkkigopmaa
