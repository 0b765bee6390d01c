/- The contract of base's Read, with the block in which what it reads lies. -/
import Derived.Test.YtaaiikjjfleooaaRead
namespace Go.Proofs.Ytaaiikjjfleooaa
open Go.RowKit Go.Lib

/-- append to a row that has room: the block, whole. -/
theorem wpList_append_fill {P : Program} {w : World} {ops : Array Oper} {rest : List Oper} {o : Oper} {a : Act} {Q : Exit → Act → World → Prop} (hgd : o.guard = none) (s x : Operand) (t : TypeId)
    (ho : o.op = .call { callee := .builtin .append, args := #[s, x], argTypes := #[t, t] }) (e : TypeId) (i : TypeInfo) (ht : P.underlying t = some (.slice e)) (hi : P.info? e = some i) (hsz : i.size = 1)
    (g n cap : Nat) (cur : Array Value) (hg : w.heap[g]? = some (.cells cur e (0, 0))) (hs : a.eval s = .slice (some ⟨g, 0, none⟩) n cap)
    (ad : Addr) (m c : Nat) (news : List Value) (hx : a.eval x = .slice (some ad) m c) (hl : news.length = m) (hnews : ∀ j u, news[j]? = some u → w.cell? (ad.add j) = some u) (h1 : ∀ u ∈ news, u.oneCell' = true)
    (hroom : n + m ≤ cap) (hfit : n + m ≤ cur.size)
    (h : ∀ w', w'.heap[g]? = some (.cells (cur.toList.take n ++ news ++ cur.toList.drop (n + m)).toArray e (0, 0)) → w.grownBy w' (some g) → wpList P ops Q rest (a.put o.dst (.slice (some ⟨g, 0, none⟩) (n + m) cap)) w') : wpList P ops Q (o :: rest) a w := by
  have hr := run_append_room (P := P) w t o.type e i ht hi g n cap cur hg ad m c news (by rw [hl, hsz, Nat.mul_one]) hnews h1 hroom (by rw [hl, hsz, Nat.mul_one]; exact hfit)
  rw [hsz, Nat.mul_one, hl] at hr
  refine wpList_plain hgd fun K hK => ?_
  unfold Oper.wp execOp
  simp only [ho, resolve, invoke, builtin, Sem.run_bind, Sem.run_pure, Result.andThen_ok, List.map_toArray, List.map_cons, List.map_nil, hs, hx, hr]
  exact hK _ _ (h _ (setRow_heap w g cur _ e _ hg) ⟨rfl, rfl, rfl, by simp, fun k _ hk => setRow_other w g k _ (fun e => hk (by rw [e]))⟩)

/-- A row of m bytes, the first of them laid. -/
def Fill (g : Nat) (L : List UInt8) (m : Nat) (w : World) : Prop := w.heap[g]? = some (.cells (byteCells L ++ List.replicate (m - L.length) (Value.int .u8 0)).toArray 5 (0, 0))
/-- A row of bytes in a block of its own. -/
def Whole (g : Nat) (L : List UInt8) (w : World) : Prop := w.heap[g]? = some (.cells (byteCells L).toArray 5 (0, 0))

/-- What Read answers, with the block. -/
def ReadIn (a : Int) (q : Nat) (s : List UInt8) (B : Nat) (v e : Value) (w : World) : Prop :=
  (∃ i c, s[i]? = some c ∧ no a c < 0 ∧ Good a (s.take i) ∧ v = .slice none 0 0 ∧ e = .iface 78 (.agg #[.int .i64 60, .int .i64 i])) ∨
  (Good a s ∧ ¬ Fit q s.length ∧ v = .slice none 0 0 ∧ e = .iface 78 (.agg #[.int .i64 61, .int .i64 s.length])) ∨
  (Good a s ∧ Fit q s.length ∧ ¬ Clean a q s ∧ v = .slice none 0 0 ∧ e = .iface 78 (.agg #[.int .i64 62, .int .i64 (s.length - 1)])) ∨
  (Good a s ∧ Fit q s.length ∧ Clean a q s ∧ e = .nilIface ∧ ∃ g, B ≤ g ∧ v = .slice (some ⟨g, 0, none⟩) (readOf a q s).length (readOf a q s).length ∧ Whole g (readOf a q s) w)

theorem fill_more {L : List UInt8} {m : Nat} (y : UInt8) (h : L.length < m) :
    (byteCells L ++ List.replicate (m - L.length) (Value.int .u8 0)).take L.length ++ Value.int .u8 y.toNat :: (byteCells L ++ List.replicate (m - L.length) (Value.int .u8 0)).drop (L.length + 1) =
      byteCells (L ++ [y]) ++ List.replicate (m - (L ++ [y]).length) (Value.int .u8 0) := by
  have hl : (byteCells L).length = L.length := byteCells_length L
  have h1 : (byteCells L ++ List.replicate (m - L.length) (Value.int .u8 0)).take L.length = byteCells L := by rw [← hl, List.take_left]
  have h2 : (byteCells L ++ List.replicate (m - L.length) (Value.int .u8 0)).drop (L.length + 1) = List.replicate (m - (L ++ [y]).length) (Value.int .u8 0) := by
    rw [List.drop_append, hl, List.drop_of_length_le (by omega), List.nil_append, List.drop_replicate, List.length_append, List.length_singleton]
    congr 1
    omega
  rw [h1, h2, byteCells_append, List.append_assoc]
  rfl

set_option maxRecDepth 100000 in
set_option maxHeartbeats 700000 in
theorem read_in (a : Int) (q : Nat) (ha : (a = 1 ∧ q = 4) ∨ (a = 2 ∧ q = 5) ∨ (a = 3 ∧ q = 6)) (s : List UInt8) (hlen : s.length ≤ 140737488351232) (w : World) :
    Calls Try.prog 20 #[.int .u8 a, .string ⟨s.toArray⟩] w fun e w' => ∃ v er, e = .returned (.tuple #[v, er]) ∧ ReadIn a q s w.heap.size v er w' ∧ Below w.heap.size w w' := by
  have HL := Lib.hid (letters_is a q ha)
  have hq0 : 4 ≤ q := by omega
  have hq1 : q ≤ 6 := by omega
  obtain ⟨s0, hs0⟩ : ∃ s0 : ByteArray, (⟨s.toArray⟩ : ByteArray) = s0 := ⟨_, rfl⟩
  have hsz : s0.size = s.length := by rw [← hs0]; rfl
  have HAt := Lib.hid (show ∀ k, (h : k < s0.size) → s[k]? = some s0[k] ∧ s.take (k + 1) = s.take k ++ [s0[k]] by
    subst hs0
    intro k h
    have h' : k < s.length := h
    exact ⟨List.getElem?_eq_getElem h', List.take_succ_eq_append_getElem h'⟩)
  rw [hs0]
  clear hs0
  obtain ⟨n, hsn⟩ : ∃ n, s0.size = n := ⟨_, rfl⟩
  rw [← hsz] at hlen
  rw [hsn] at hlen
  have HLn := Lib.hid (hsz.symm.trans hsn)
  obtain ⟨i0, hi, hz0, hz1, hz2⟩ := info_parts infoByte
  clear hsz
  go_enter Try.func20, Try.ntmps20
  go_wp2_with fail
  refine (HL.out _).mono ?_
  rintro e w1 ⟨rfl, hb1⟩
  have s1 := hb1.size
  go_wp2_with fail
  go_loopw [26] (fun i wr => ∃ k : Nat, k ≤ 256 ∧ i = .int .i64 k ∧ Nums a w1.heap.size k wr ∧ Below w.heap.size w wr) (fun i _ => 256 - (RowKit.intOf i).toNat)
  case atStart => exact ⟨0, Nat.zero_le _, rfl, ⟨_, heap_new _ rfl, by kernel_rfl, fun i hi => by omega⟩, hb1.alloc s1 _⟩
  case round =>
    obtain ⟨k, hk, rfl, hn, hb⟩ := hrel
    by_cases hlt : k < 256
    · obtain ⟨⟨v0, hc⟩, hf⟩ := hn.free k hlt
      have hno := no_facts a q ha (UInt8.ofNat k)
      have h64 : (2 : Int) ^ q ≤ 64 := by
        obtain rfl | rfl | rfl : q = 4 ∨ q = 5 ∨ q = 6 := by omega
        all_goals decide
      have hset := hn.set hlt
      obtain ⟨z, hz⟩ : ∃ z, no a (UInt8.ofNat k) = z := ⟨_, rfl⟩
      rw [hz] at hno hset
      have z1 : -1 ≤ z := hno.1
      have z2 : z < 64 := by omega
      have HZ := Lib.hid hz
      have HSet := Lib.hid hset
      clear hno h64 hz hset
      go_wp2_with fail
      refine (Go.Proofs.Try.strings_IndexByte (abc a) k wr).mono ?_
      rintro e w2 ⟨rfl, rfl⟩
      have hz2 : Lib.indexByte (abc a).data.toList ((k : Int).toNat.toUInt8) = z := HZ.out
      rw [hz2]
      clear hz2
      go_wp2_with fail
      go_roundw
      case rel => exact ⟨k + 1, by omega, by go_num, HSet.out, hb.setCell (p := ⟨w1.heap.size, k, none⟩) s1 _⟩
      case measure => simp [RowKit.intOf]; omega
    · obtain rfl : k = 256 := by omega
      clear hlt hk
      have sb := hb.size
      go_wp2_with fail
      go_loopw [39] (fun i wr => ∃ k : Nat, k ≤ n ∧ i = .int .i64 k ∧ Good a (s.take k) ∧ Nums a w1.heap.size 256 wr ∧ Below w.heap.size w wr) (fun i _ => n - (RowKit.intOf i).toNat)
      case atStart => exact ⟨0, Nat.zero_le _, rfl, fun c hc => by simp at hc, hn, hb⟩
      case round =>
        obtain ⟨k, hk, rfl, hgood, hN, hB⟩ := hrel
        have HG := Lib.hid hgood
        clear hgood
        by_cases hlt : k < n
        · have hks : k < s0.size := by omega
          have hat := HAt.out k hks
          have hc256 := s0[k].toNat_lt
          have hcell := hN.at s0[k].toNat hc256
          rw [UInt8.ofNat_toNat] at hcell
          obtain ⟨z, hz⟩ : ∃ z, no a s0[k] = z := ⟨_, rfl⟩
          rw [hz] at hcell
          have HZ := Lib.hid hz
          have HA := Lib.hid hat
          clear hz hat
          by_cases hneg : z < 0
          · have hd : decide (z < 0) = true := decide_eq_true hneg
            have HNeg := Lib.hid hneg
            clear hneg
            go_wp2_with fail
            go_ret2
            exact ⟨_, _, rfl, .inl ⟨k, s0[k], HA.out.1, by rw [HZ.out]; exact HNeg.out, HG.out, rfl, rfl⟩, hB⟩
          · have hd : decide (z < 0) = false := decide_eq_false hneg
            have HNeg := Lib.hid hneg
            clear hneg
            go_wp2_with fail
            go_roundw
            case rel =>
              refine ⟨k + 1, by omega, by go_num, ?_, hN, hB⟩
              intro c hc
              rw [HA.out.2] at hc
              rcases List.mem_append.1 hc with hc | hc
              · exact HG.out c hc
              · rw [List.mem_singleton] at hc; rw [hc, HZ.out]; exact Int.not_lt.1 HNeg.out
            case measure => simp [RowKit.intOf]; omega
        · obtain rfl : n = k := by omega
          have hg := HG.out
          rw [List.take_of_length_le (by rw [HLn.out]; exact Nat.le_refl _)] at hg
          have HGd := Lib.hid hg
          clear hlt hk hg HG hn hb
          have sb := hB.size
          go_wp2_with fail
          refine (room_nat a q n ha (by omega) wr).mono ?_
          rintro e w3 ⟨rfl, hb3⟩
          have hB3 := hB.trans (hb3.mono sb)
          have hN3 : Nums a w1.heap.size 256 w3 := by
            obtain ⟨cs, x1, x2, x3⟩ := hN
            have hlt1 := (Array.getElem?_eq_some_iff.1 x1).1
            exact ⟨cs, (hb3.block _ hlt1).trans x1, x2, x3⟩
          clear hN hB hb3
          have hroom := roomOf_fit q n
          obtain ⟨m, hm⟩ : ∃ m, roomOf q n = m := ⟨_, rfl⟩
          obtain ⟨f, hf⟩ : ∃ f, fitB q n = f := ⟨_, rfl⟩
          rw [hm, hf] at hroom ⊢
          have HF := Lib.hid hf
          have HR := Lib.hid hroom
          clear hm hf hroom
          cases f with
          | false =>
            go_wp2_with fail
            go_ret2
            refine ⟨.slice none 0 0, .iface 78 (.agg #[.int .i64 61, .int .i64 n]), rfl, .inr (.inl ⟨HGd.out, fun hfit => ?_, rfl, by rw [HLn.out]⟩), hB3⟩
            have := (fitB_iff q s.length).2 hfit
            rw [HLn.out, HF.out] at this
            cases this
          | true =>
            have hm : m = q * n / 8 := HR.out rfl
            have hq6 : q * n ≤ 6 * n := Nat.mul_le_mul_right n hq1
            have hmn : m ≤ n := by omega
            have hmk : ∀ w : World, (Instr.makeSlice 22 (.int .i64 0) (.int .i64 (m : Int))).run Try.prog w = .ok (.slice (some ⟨w.heap.size, 0, none⟩) 0 m) (w.alloc (.cells (madeCells #[.int .u8 0] m) 5)) := fun w => by
              have h := run_make (P := Try.prog) w 22 5 i0 (.int .u8 0) Try.underlying22 hi hz0 .i64 .i64 (0 : Int) (m : Int) (by omega) (by omega) (by rw [hz2]; omega) (by omega)
              rw [hz1, Nat.mul_one, Int.toNat_natCast] at h
              exact h
            have HM := Lib.hid hm
            clear hm hq6
            have sb3 := hB3.size
            go_wp2_with fail
            clear hmk
            have hbs : w1.heap.size < w3.heap.size := by
              obtain ⟨cs, x1, x2, x3⟩ := hN3
              exact (Array.getElem?_eq_some_iff.1 x1).1
            go_loopw [13, 14, 15, 69] (fun v b h i wr => ∃ k : Nat, k ≤ n ∧ i = .int .i64 k ∧ v = .slice (some ⟨w3.heap.size, 0, none⟩) (readOf a q (s.take k)).length m ∧ b = .int .u32 (tval a q (s.take k) % 4294967296 : Nat) ∧ h = .int .u64 (over q (s.take k).length) ∧
                Fill w3.heap.size (readOf a q (s.take k)) m wr ∧ Nums a w1.heap.size 256 wr ∧ Below w.heap.size w wr) (fun _ _ _ i _ => n - (RowKit.intOf i).toNat)
            case atStart =>
              refine ⟨0, Nat.zero_le _, rfl, ?_, ?_, ?_, ?_, ?_, hB3.alloc sb3 _⟩
              · rw [List.take_zero, show readOf a q [] = [] by simp [readOf, bytesOf]]; rfl
              · rw [List.take_zero]; rfl
              · rw [List.take_zero]; rfl
              · rw [List.take_zero, show readOf a q [] = [] by simp [readOf, bytesOf]]
                unfold Fill
                have em : madeCells #[Value.int .u8 0] m = (byteCells [] ++ List.replicate (m - ([] : List UInt8).length) (Value.int .u8 0)).toArray := by
                  apply Array.ext'
                  rw [toList_madeCells_one]
                  simp [byteCells]
                rw [heap_new _ rfl, em]
              · obtain ⟨cs, x1, x2, x3⟩ := hN3
                exact ⟨cs, (alloc_old _ _ _ (Array.getElem?_eq_some_iff.1 x1).1).trans x1, x2, x3⟩
            case round =>
              clear hN3 hB3
              obtain ⟨k, hk, rfl, rfl, rfl, rfl, hown, hN, hB⟩ := hrel
              have sbr := hB.size
              have hgr : w3.heap.size < wr.heap.size := (Array.getElem?_eq_some_iff.1 hown).1
              by_cases hlt : k < n
              · have hks : k < s0.size := by omega
                have hat := HAt.out k hks
                have hc256 := s0[k].toNat_lt
                have hcell := hN.at s0[k].toNat hc256
                rw [UInt8.ofNat_toNat] at hcell
                have hno := no_facts a q ha s0[k]
                have hpos := HGd.out s0[k] (List.mem_of_getElem? hat.1)
                have htv := tval_snoc a q (s.take k) s0[k]
                have hrl := read_less a q ha (s.take k) s0[k]
                have hrm := read_more a q ha (s.take k) s0[k]
                rw [← hat.2] at htv hrl hrm
                have hov : over q (s.take k).length < 8 := Nat.mod_lt _ (by decide)
                have hRl : (readOf a q (s.take (k + 1))).length ≤ m := by
                  rw [readOf_length, List.length_take, HM.out]
                  exact Nat.div_le_div_right (Nat.mul_le_mul_left q (by omega))
                obtain ⟨z, hz⟩ : ∃ z : Nat, no a s0[k] = z := ⟨(no a s0[k]).toNat, by omega⟩
                rw [hz] at hcell hno htv
                have h64 : (2 : Nat) ^ q ≤ 64 := by
                  obtain rfl | rfl | rfl : q = 4 ∨ q = 5 ∨ q = 6 := by omega
                  all_goals decide
                have hzq : z < 2 ^ q := by
                  have h1 := hno.2.1
                  have h2 : ((2 ^ q : Nat) : Int) = 2 ^ q := by rw [Int.natCast_pow]; rfl
                  omega
                have hz64 : z < 64 := by omega
                rw [Int.toNat_natCast] at htv
                have hor := or_read q (tval a q (s.take k)) z hq0 hq1 hzq
                rw [← htv] at hor
                have hB1 : tval a q (s.take k) % 4294967296 < 4294967296 := Nat.mod_lt _ (by decide)
                have hB2 : tval a q (s.take (k + 1)) % 4294967296 < 4294967296 := Nat.mod_lt _ (by decide)
                obtain ⟨B, hBB⟩ : ∃ B, tval a q (s.take k) % 4294967296 = B := ⟨_, rfl⟩
                obtain ⟨B', hBB'⟩ : ∃ B', tval a q (s.take (k + 1)) % 4294967296 = B' := ⟨_, rfl⟩
                obtain ⟨H, hH⟩ : ∃ H, over q (s.take k).length = H := ⟨_, rfl⟩
                rw [hBB, hBB'] at hor
                rw [hBB] at hB1 ⊢
                rw [hBB'] at hB2
                rw [hH] at hov hrl hrm ⊢
                have HBB' := Lib.hid hBB'
                clear hno hpos hz hat h64 hzq htv hH hBB hBB'
                by_cases hge : 8 ≤ H + q
                · have hgeI : (8 : Int) ≤ (H : Int) + (q : Int) := by omega
                  obtain ⟨ho', hr'⟩ := hrm hge
                  obtain ⟨y, hy⟩ : ∃ y : UInt8, UInt8.ofNat (tval a q (s.take (k + 1)) / 2 ^ (H + q - 8)) = y := ⟨_, rfl⟩
                  have hby := byte_read (tval a q (s.take (k + 1))) (H + q - 8) (by omega)
                  rw [HBB'.out, hy] at hby
                  rw [hy] at hr'
                  rw [hr', List.length_append, List.length_singleton] at hRl
                  have HR' := Lib.hid hr'
                  have HO' := Lib.hid ho'
                  have HFill := Lib.hid hown
                  obtain ⟨r, hrr⟩ : ∃ r, (readOf a q (s.take k)).length = r := ⟨_, rfl⟩
                  rw [hrr] at hRl ⊢
                  have HRR := Lib.hid hrr
                  clear hrr hown
                  have htn : ((H : Int) + (q : Int) - 8).toNat = H + q - 8 := by omega
                  have hmin : min ((H : Int) + (q : Int) - 8).toNat 32 = H + q - 8 := by omega
                  clear hrl hrm hr' ho' hy
                  go_wp2_with (at_builtin; refine wpList_append_fill rfl _ _ 22 rfl 5 i0 Try.underlying22 hi hz1 w3.heap.size r m (byteCells (readOf a q (s.take k)) ++ List.replicate (m - (readOf a q (s.take k)).length) (Value.int .u8 0)).toArray ?c0 rfl ⟨wr.heap.size, 0, none⟩ 1 1 [.int .u8 y.toNat] rfl rfl ?c1 ?c2 ?c3 ?c4 ?_)
                  case c0 => exact (alloc_old _ _ _ hgr).trans HFill.out
                  case c1 =>
                    intro j u hj
                    match j, hj with
                    | 0, hj => simp at hj; subst hj; simp [Addr.add]
                  case c2 => intro u hu; simp at hu; subst hu; rfl
                  case c3 => omega
                  case c4 =>
                    have := HRR.out
                    simp [byteCells_length]
                    omega
                  intro w2 hfill hgrow
                  have hb2 := ((hB.alloc (by omega) _).grown hgrow (by simp; omega) (fun k hk => by cases hk; exact sb3))
                  have hn2 : Nums a w1.heap.size 256 w2 := by
                    obtain ⟨cs, x1, x2, x3⟩ := hN
                    have hlt1 := (Array.getElem?_eq_some_iff.1 x1).1
                    refine ⟨cs, (hgrow.block _ (by simp; omega) (fun e => ?_)).trans ((alloc_old _ _ _ (by omega)).trans x1), x2, x3⟩
                    rw [Option.some.injEq] at e
                    omega
                  have hf2 : Fill w3.heap.size (readOf a q (s.take (k + 1))) m w2 := by
                    unfold Fill
                    rw [hfill, HR'.out]
                    have h5 := fill_more (L := readOf a q (s.take k)) (m := m) y (by rw [HRR.out]; omega)
                    rw [HRR.out] at h5 ⊢
                    congr 2
                    exact congrArg List.toArray (by rw [h5])
                  have HF2 := Lib.hid hf2
                  clear hgrow hfill hN hf2
                  go_wp2_with fail
                  go_roundw
                  case rel => exact ⟨k + 1, by omega, by go_num, by rw [HR'.out, List.length_append, HRR.out]; rfl, by rw [HBB'.out], by rw [HO'.out]; go_num, HF2.out, hn2, hb2⟩
                  case measure => simp [RowKit.intOf]; omega
                · have hltI : ((H : Int) + (q : Int)) < 8 := by omega
                  obtain ⟨ho', hr'⟩ := hrl (by omega)
                  have HR' := Lib.hid hr'
                  have HO' := Lib.hid ho'
                  clear hrl hrm hr' ho'
                  go_wp2_with fail
                  go_roundw
                  case rel => exact ⟨k + 1, by omega, by go_num, by rw [HR'.out], by rw [HBB'.out], by rw [HO'.out]; go_num, by rw [HR'.out]; exact hown, hN, hB⟩
                  case measure => simp [RowKit.intOf]; omega
              · obtain rfl : n = k := by omega
                have hT : s.take n = s := List.take_of_length_le (by rw [HLn.out]; exact Nat.le_refl _)
                rw [hT] at hown ⊢
                have hov : over q s.length < 8 := Nat.mod_lt _ (by decide)
                have hB1 : tval a q s % 4294967296 < 4294967296 := Nat.mod_lt _ (by decide)
                have hcl : tval a q s % 4294967296 % 2 ^ over q s.length = tval a q s % 2 ^ over q s.length := Nat.mod_mod_of_dvd _ (by
                  rw [show (4294967296 : Nat) = 2 ^ 32 from rfl]
                  exact Nat.pow_dvd_pow 2 (by omega))
                obtain ⟨B, hBB⟩ : ∃ B, tval a q s % 4294967296 = B := ⟨_, rfl⟩
                obtain ⟨H, hH⟩ : ∃ H, over q s.length = H := ⟨_, rfl⟩
                have hcl2 : Clean a q s ↔ B % 2 ^ H = 0 := by
                  unfold Clean
                  rw [hH] at hcl ⊢
                  rw [← hcl, hBB]
                rw [hBB] at hB1 ⊢
                rw [hH] at hov ⊢
                have HCl := Lib.hid hcl2
                have hfit : Fit q s.length := by rw [HLn.out]; exact (fitB_iff q n).1 HF.out
                have HFit := Lib.hid hfit
                clear hT hcl hBB hH hcl2 hfit hN hlt hk
                have hmask := mask_read B H hB1 hov
                obtain ⟨r, hr⟩ : ∃ r, B % 2 ^ H = r := ⟨_, rfl⟩
                rw [hr] at hmask
                have HR2 := Lib.hid hr
                clear hr
                by_cases h0 : r = 0
                · have hd : (((r : Nat) : Int) != 0) = false := by rw [bne_eq_false_iff_eq]; omega
                  have H0 := Lib.hid h0
                  clear h0
                  go_wp2_with fail
                  go_ret2
                  have hrl : (readOf a q s).length = m := by rw [readOf_length, HLn.out, HM.out]
                  unfold Fill at hown
                  rw [hrl, Nat.sub_self, List.replicate_zero, List.append_nil] at hown
                  exact ⟨.slice (some ⟨w3.heap.size, 0, none⟩) (readOf a q s).length m, .nilIface, rfl, .inr (.inr (.inr ⟨HGd.out, HFit.out, HCl.out.2 (HR2.out.trans H0.out), rfl, w3.heap.size, sb3, by rw [hrl], hown⟩)), hB⟩
                · have hd : (((r : Nat) : Int) != 0) = true := by rw [bne_iff_ne]; omega
                  have H0 := Lib.hid h0
                  clear h0
                  go_wp2_with fail
                  go_ret2
                  exact ⟨.slice none 0 0, .iface 78 (.agg #[.int .i64 62, .int .i64 (n - 1)]), rfl, .inr (.inr (.inl ⟨HGd.out, HFit.out, fun h => H0.out (HR2.out.symm.trans (HCl.out.1 h)), rfl, by rw [HLn.out]⟩)), hB⟩
end Go.Proofs.Ytaaiikjjfleooaa
