/- Plain: the numbers of letters, and the bytes that they are. -/
import Derived.Test.YtaaiikjjfleooaaLettRef
import Derived.Test.YtaaiikjjfleooaaPut
import Derived.Lib.Bytealg
namespace Go.Proofs.Ytaaiikjjfleooaa

/-- The last m bytes of a number. -/
def bytesOf : Nat → Nat → List UInt8
  | 0, _ => []
  | m + 1, v => bytesOf m (v / 256) ++ [UInt8.ofNat v]

theorem bytesOf_length : ∀ m v, (bytesOf m v).length = m := by
  intro m
  induction m with
  | zero => intro v; rfl
  | succ m ih => intro v; simp [bytesOf, ih]
theorem val_bytesOf : ∀ m v, v < 2 ^ (8 * m) → val (bytesOf m v) = v := by
  intro m
  induction m with
  | zero => intro v h; simp at h; subst h; rfl
  | succ m ih =>
    intro v h
    rw [show 8 * (m + 1) = 8 * m + 8 by omega, Nat.pow_add] at h
    rw [bytesOf, val_snoc, ih _ (by generalize 2 ^ (8 * m) = P at *; omega), UInt8.toNat_ofNat']
    omega
theorem bytesOf_val (l : List UInt8) : bytesOf l.length (val l) = l := by
  refine snoc_ind (P := fun l => bytesOf l.length (val l) = l) rfl (fun l b ih => ?_) l
  have hb := b.toNat_lt
  rw [List.length_append, List.length_singleton, bytesOf, val_snoc, show (256 * val l + b.toNat) / 256 = val l by omega, ih]
  congr 2
  apply UInt8.toNat_inj.1
  rw [UInt8.toNat_ofNat']
  omega

/-- The number of a letter; -1: it is none. -/
def no (a : Int) (c : UInt8) : Int := Lib.indexByte (abc a).data.toList c
/-- The numbers of letters. -/
def digs (a : Int) (s : List UInt8) : List Nat := s.map fun c => (no a c).toNat
/-- Are all letters? -/
def Good (a : Int) (s : List UInt8) : Prop := ∀ c ∈ s, 0 ≤ no a c

theorem no_facts (a : Int) (q : Nat) (ha : (a = 1 ∧ q = 4) ∨ (a = 2 ∧ q = 5) ∨ (a = 3 ∧ q = 6)) (c : UInt8) : -1 ≤ no a c ∧ no a c < 2 ^ q ∧ (0 ≤ no a c → lett a (no a c).toNat = c) := by
  have hc : c = UInt8.ofNat c.toNat := by simp
  have d1 : ∀ i : Fin 256, -1 ≤ no 1 (UInt8.ofNat i.1) ∧ no 1 (UInt8.ofNat i.1) < 2 ^ 4 ∧ (0 ≤ no 1 (UInt8.ofNat i.1) → lett 1 (no 1 (UInt8.ofNat i.1)).toNat = UInt8.ofNat i.1) := by decide +kernel
  have d2 : ∀ i : Fin 256, -1 ≤ no 2 (UInt8.ofNat i.1) ∧ no 2 (UInt8.ofNat i.1) < 2 ^ 5 ∧ (0 ≤ no 2 (UInt8.ofNat i.1) → lett 2 (no 2 (UInt8.ofNat i.1)).toNat = UInt8.ofNat i.1) := by decide +kernel
  have d3 : ∀ i : Fin 256, -1 ≤ no 3 (UInt8.ofNat i.1) ∧ no 3 (UInt8.ofNat i.1) < 2 ^ 6 ∧ (0 ≤ no 3 (UInt8.ofNat i.1) → lett 3 (no 3 (UInt8.ofNat i.1)).toNat = UInt8.ofNat i.1) := by decide +kernel
  rw [hc]
  rcases ha with ⟨rfl, rfl⟩ | ⟨rfl, rfl⟩ | ⟨rfl, rfl⟩
  · exact d1 ⟨c.toNat, c.toNat_lt⟩
  · exact d2 ⟨c.toNat, c.toNat_lt⟩
  · exact d3 ⟨c.toNat, c.toNat_lt⟩
theorem no_lett (a : Int) (q : Nat) (ha : (a = 1 ∧ q = 4) ∨ (a = 2 ∧ q = 5) ∨ (a = 3 ∧ q = 6)) (n : Nat) (h : n < 2 ^ q) : no a (lett a n) = n := by
  have d1 : ∀ i : Fin 16, no 1 (lett 1 i.1) = i.1 := by decide +kernel
  have d2 : ∀ i : Fin 32, no 2 (lett 2 i.1) = i.1 := by decide +kernel
  have d3 : ∀ i : Fin 64, no 3 (lett 3 i.1) = i.1 := by decide +kernel
  rcases ha with ⟨rfl, rfl⟩ | ⟨rfl, rfl⟩ | ⟨rfl, rfl⟩
  · exact d1 ⟨n, h⟩
  · exact d2 ⟨n, h⟩
  · exact d3 ⟨n, h⟩

theorem digs_lt (a : Int) (q : Nat) (ha : (a = 1 ∧ q = 4) ∨ (a = 2 ∧ q = 5) ∨ (a = 3 ∧ q = 6)) (s : List UInt8) : ∀ x ∈ digs a s, x < 2 ^ q := by
  intro x hx
  obtain ⟨c, _, rfl⟩ := List.mem_map.1 hx
  obtain ⟨h0, h1, _⟩ := no_facts a q ha c
  have : ((2 ^ q : Nat) : Int) = 2 ^ q := by rw [Int.natCast_pow]; rfl
  have h2 : 0 < 2 ^ q := Nat.two_pow_pos q
  omega
theorem digs_length (a : Int) (s : List UInt8) : (digs a s).length = s.length := by simp [digs]
theorem digs_lett (a : Int) (q : Nat) (ha : (a = 1 ∧ q = 4) ∨ (a = 2 ∧ q = 5) ∨ (a = 3 ∧ q = 6)) (X : List Nat) (h : ∀ x ∈ X, x < 2 ^ q) : digs a (X.map (lett a)) = X ∧ Good a (X.map (lett a)) := by
  constructor
  · unfold digs
    rw [List.map_map]
    conv => rhs; rw [← List.map_id X]
    refine List.map_congr_left fun x hx => ?_
    simp [no_lett a q ha x (h x hx)]
  · intro c hc
    obtain ⟨x, hx, rfl⟩ := List.mem_map.1 hc
    rw [no_lett a q ha x (h x hx)]
    omega
theorem lett_digs (a : Int) (q : Nat) (ha : (a = 1 ∧ q = 4) ∨ (a = 2 ∧ q = 5) ∨ (a = 3 ∧ q = 6)) (s : List UInt8) (h : Good a s) : (digs a s).map (lett a) = s := by
  unfold digs
  rw [List.map_map]
  conv => rhs; rw [← List.map_id s]
  refine List.map_congr_left fun c hc => ?_
  exact (no_facts a q ha c).2.2 (h c hc)

theorem dval_inj (B : Nat) : ∀ X Y : List Nat, (∀ x ∈ X, x < B) → (∀ y ∈ Y, y < B) → X.length = Y.length → dval B X = dval B Y → X = Y := by
  intro X
  induction X with
  | nil => intro Y _ _ hl _; cases Y with | nil => rfl | cons b t => simp at hl
  | cons a s ih =>
    intro Y hX hY hl he
    cases Y with
    | nil => simp at hl
    | cons b t =>
      have hs : ∀ x ∈ s, x < B := fun x hx => hX x (List.mem_cons_of_mem _ hx)
      have ht : ∀ x ∈ t, x < B := fun x hx => hY x (List.mem_cons_of_mem _ hx)
      have hl' : s.length = t.length := by simpa using hl
      have l1 := dval_lt B s hs
      have l2 := dval_lt B t ht
      simp only [dval] at he
      rw [← hl'] at he l2
      generalize B ^ s.length = P at *
      have hab : a = b := by
        rcases Nat.lt_trichotomy a b with h | h | h
        · have : (a + 1) * P ≤ b * P := Nat.mul_le_mul_right _ h
          rw [Nat.add_mul, Nat.one_mul] at this
          omega
        · exact h
        · have : (b + 1) * P ≤ a * P := Nat.mul_le_mul_right _ h
          rw [Nat.add_mul, Nat.one_mul] at this
          omega
      subst hab
      rw [ih t hs ht hl' (by omega)]

/-- The number that letters are. -/
def tval (a : Int) (q : Nat) (s : List UInt8) : Nat := dval (2 ^ q) (digs a s)
theorem tval_snoc (a : Int) (q : Nat) (s : List UInt8) (c : UInt8) : tval a q (s ++ [c]) = tval a q s * 2 ^ q + (no a c).toNat := by
  unfold tval digs
  rw [List.map_append, List.map_singleton, dval_snoc, Nat.mul_comm]
theorem tval_lt (a : Int) (q : Nat) (ha : (a = 1 ∧ q = 4) ∨ (a = 2 ∧ q = 5) ∨ (a = 3 ∧ q = 6)) (s : List UInt8) : tval a q s < 2 ^ (q * s.length) := by
  have := dval_lt (2 ^ q) (digs a s) (digs_lt a q ha s)
  rw [digs_length, ← Nat.pow_mul] at this
  exact this
/-- How many bits behind the whole bytes so many letters have. -/
def over (q n : Nat) : Nat := q * n % 8
/-- Is the rest nought? -/
def Clean (a : Int) (q : Nat) (s : List UInt8) : Prop := tval a q s % 2 ^ over q s.length = 0
/-- The bytes of letters. -/
def readOf (a : Int) (q : Nat) (s : List UInt8) : List UInt8 := bytesOf (q * s.length / 8) (tval a q s / 2 ^ over q s.length)
theorem readOf_length (a : Int) (q : Nat) (s : List UInt8) : (readOf a q s).length = q * s.length / 8 := bytesOf_length _ _

/-- One more letter: no byte more. -/
theorem read_less (a : Int) (q : Nat) (ha : (a = 1 ∧ q = 4) ∨ (a = 2 ∧ q = 5) ∨ (a = 3 ∧ q = 6)) (s : List UInt8) (c : UInt8) (h : over q s.length + q < 8) :
    over q (s ++ [c]).length = over q s.length + q ∧ readOf a q (s ++ [c]) = readOf a q s := by
  unfold over at *
  have e1 : q * (s.length + 1) = q * s.length + q := by rw [Nat.mul_add, Nat.mul_one]
  have hx : (no a c).toNat < 2 ^ q := digs_lt a q ha [c] _ (by simp [digs])
  have e2 : q * (s.length + 1) % 8 = q * s.length % 8 + q := by omega
  refine ⟨by rw [List.length_append, List.length_singleton, e2], ?_⟩
  unfold readOf over
  rw [List.length_append, List.length_singleton, e2, show q * (s.length + 1) / 8 = q * s.length / 8 by omega, tval_snoc, Nat.add_comm (q * s.length % 8) q, Nat.pow_add, ← Nat.div_div_eq_div_mul]
  congr 2
  rw [Nat.mul_comm (tval a q s), Nat.mul_add_div (Nat.two_pow_pos q), Nat.div_eq_of_lt hx, Nat.add_zero]
/-- One more letter: a byte more. -/
theorem read_more (a : Int) (q : Nat) (ha : (a = 1 ∧ q = 4) ∨ (a = 2 ∧ q = 5) ∨ (a = 3 ∧ q = 6)) (s : List UInt8) (c : UInt8) (h : 8 ≤ over q s.length + q) :
    over q (s ++ [c]).length = over q s.length + q - 8 ∧ readOf a q (s ++ [c]) = readOf a q s ++ [UInt8.ofNat (tval a q (s ++ [c]) / 2 ^ (over q s.length + q - 8))] := by
  unfold over at *
  have e1 : q * (s.length + 1) = q * s.length + q := by rw [Nat.mul_add, Nat.mul_one]
  have hx : (no a c).toNat < 2 ^ q := digs_lt a q ha [c] _ (by simp [digs])
  have hq : q ≤ 6 := by omega
  have e2 : q * (s.length + 1) % 8 = q * s.length % 8 + q - 8 := by omega
  refine ⟨by rw [List.length_append, List.length_singleton, e2], ?_⟩
  unfold readOf over
  rw [List.length_append, List.length_singleton, e2, show q * (s.length + 1) / 8 = q * s.length / 8 + 1 by omega, bytesOf]
  congr 2
  rw [Nat.div_div_eq_div_mul, show (256 : Nat) = 2 ^ 8 from rfl, ← Nat.pow_add, show q * s.length % 8 + q - 8 + 8 = q + q * s.length % 8 by omega, Nat.pow_add, ← Nat.div_div_eq_div_mul, tval_snoc]
  congr 1
  rw [Nat.mul_comm (tval a q s), Nat.mul_add_div (Nat.two_pow_pos q), Nat.div_eq_of_lt hx, Nat.add_zero]

/-- Are there bytes of so many letters? -/
def Fit (q n : Nat) : Prop := (8 * (n % 8 * q / 8) + q - 1) / q = n % 8

theorem fit_facts (q n : Nat) (hq0 : 4 ≤ q) (hq1 : q ≤ 6) : n / 8 * q + n % 8 * q / 8 = q * n / 8 ∧ (Fit q n ↔ (8 * (q * n / 8) + q - 1) / q = n) := by
  unfold Fit
  have hr : n % 8 = 0 ∨ n % 8 = 1 ∨ n % 8 = 2 ∨ n % 8 = 3 ∨ n % 8 = 4 ∨ n % 8 = 5 ∨ n % 8 = 6 ∨ n % 8 = 7 := by omega
  obtain rfl | rfl | rfl : q = 4 ∨ q = 5 ∨ q = 6 := by omega
  all_goals
    refine ⟨by omega, ?_⟩
    rcases hr with hr | hr | hr | hr | hr | hr | hr | hr <;> rw [hr] <;> omega

/-- What is read is written so. -/
theorem write_read (a : Int) (q : Nat) (ha : (a = 1 ∧ q = 4) ∨ (a = 2 ∧ q = 5) ∨ (a = 3 ∧ q = 6)) (s : List UInt8) (hg : Good a s) (hf : Fit q s.length) (hc : Clean a q s) :
    (allNums q (readOf a q s)).map (lett a) = s := by
  have hq0 : 4 ≤ q := by omega
  have hq1 : q ≤ 6 := by omega
  have hF := (fit_facts q s.length hq0 hq1).2.1 hf
  have hlen : (allNums q (readOf a q s)).length = s.length := by rw [all_len q (by omega), readOf_length, hF]
  have hd : allNums q (readOf a q s) = digs a s := by
    refine dval_inj (2 ^ q) _ _ ?_ (digs_lt a q ha s) (by rw [hlen, digs_length]) ?_
    · intro x hx
      obtain ⟨i, hi, rfl⟩ := List.getElem_of_mem hx
      rw [all_at q (by omega) _ i hi]
      exact part_lt q _ i q
    · obtain ⟨h1, h2, h3⟩ := all_facts q (by omega) (readOf a q s)
      have hv : val (readOf a q s) = tval a q s / 2 ^ over q s.length := by
        refine val_bytesOf _ _ ?_
        have h4 := tval_lt a q ha s
        rw [Nat.div_lt_iff_lt_mul (Nat.two_pow_pos _), ← Nat.pow_add]
        unfold over
        rw [show 8 * (q * s.length / 8) + q * s.length % 8 = q * s.length by omega]
        exact h4
      rw [h1, hlen, readOf_length, hv, show q * s.length - 8 * (q * s.length / 8) = over q s.length by unfold over; omega]
      unfold Clean at hc
      exact Nat.div_mul_cancel (Nat.dvd_of_mod_eq_zero hc)
  rw [hd]
  exact lett_digs a q ha s hg

/-- What is written is read. -/
theorem read_write (a : Int) (q : Nat) (ha : (a = 1 ∧ q = 4) ∨ (a = 2 ∧ q = 5) ∨ (a = 3 ∧ q = 6)) (l : List UInt8) :
    Good a ((allNums q l).map (lett a)) ∧ Fit q (allNums q l).length ∧ Clean a q ((allNums q l).map (lett a)) ∧ readOf a q ((allNums q l).map (lett a)) = l := by
  have hq0 : 4 ≤ q := by omega
  have hq1 : q ≤ 6 := by omega
  have hlt : ∀ x ∈ allNums q l, x < 2 ^ q := by
    intro x hx
    obtain ⟨i, hi, rfl⟩ := List.getElem_of_mem hx
    rw [all_at q (by omega) _ i hi]
    exact part_lt q _ i q
  obtain ⟨e1, e2⟩ := digs_lett a q ha _ hlt
  obtain ⟨h1, h2, h3⟩ := all_facts q (by omega) l
  have hM := all_len q (by omega) l
  have h4 : over q (allNums q l).length = q * (allNums q l).length - 8 * l.length := by unfold over; omega
  have h5 : q * (allNums q l).length / 8 = l.length := by omega
  refine ⟨e2, (fit_facts q _ hq0 hq1).2.2 (by rw [h5, ← hM]), ?_, ?_⟩
  · unfold Clean tval
    rw [e1, List.length_map, h4, h1, Nat.mul_mod_left]
  · unfold readOf tval
    rw [e1, List.length_map, h4, h5, h1, Nat.mul_div_cancel _ (Nat.two_pow_pos _)]
    exact bytesOf_val l
end Go.Proofs.Ytaaiikjjfleooaa
