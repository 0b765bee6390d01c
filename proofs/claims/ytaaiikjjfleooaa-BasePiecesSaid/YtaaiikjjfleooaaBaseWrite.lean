/- The contracts of base's Write, Hex and Web, and of the law's beyond and errno. -/
import Derived.Test.YtaaiikjjfleooaaEnd
import Derived.Test.YtaaiikjjfleooaaOpenBytes
import Derived.WalkLawsBesides
namespace Go.Proofs.Ytaaiikjjfleooaa
open Go.RowKit Go.Lib

theorem beyond_any (n : Int) (w : World) : Calls Try.prog 11 #[.int .i64 n] w fun e w' => e = .returned (.bool (decide (134217728 < n))) ∧ w = w' := by
  go_enter Try.func11, Try.ntmps11
  go_wp2
  go_ret
  exact ⟨rfl, rfl⟩

theorem assertErrno (v : Value) (w : World) : (Instr.typeAssert (.iface 35 v) 26 35 true).run Try.prog w = .ok (.tuple #[v, .bool true]) w := by kernel_rfl
theorem errno_arg (w : World) :
    Calls Try.prog 19 #[.iface 35 (.int .i64 2), .int .i64 2] w fun e w' => e = .returned (.bool true) ∧ w = w' := by
  have ha := assertErrno
  go_enter Try.func19, Try.ntmps19
  go_wp2
  go_ret
  exact ⟨rfl, rfl⟩

/-- The letters of a row of bytes. -/
def lettersOf (a : Int) (q : Nat) (l : List UInt8) : ByteArray := ⟨((allNums q l).map (lett a)).toArray⟩

set_option maxRecDepth 100000 in
set_option maxHeartbeats 2000000 in
theorem write_letters (a : Int) (q : Nat) (ha : (a = 1 ∧ q = 4) ∨ (a = 2 ∧ q = 5) ∨ (a = 3 ∧ q = 6)) (p : Option Addr) (cap : Nat) (l : List UInt8) (w : World)
    (hB : Bytes w.heap.size w.heap.size p l w) (hlen : l.length ≤ 134217728) :
    Calls Try.prog 13 #[.int .u8 a, .slice p l.length cap] w fun e w' => e = .returned (.tuple #[.string (lettersOf a q l), .nilIface]) ∧ Below w.heap.size w w' := by
  unfold lettersOf
  have HL := Lib.hid (letters_is a q ha)
  have HB := Lib.hid hB
  go_enter Try.func13, Try.ntmps13
  go_wp2_with fail
  refine (HL.out _).mono ?_
  rintro e w1 ⟨rfl, hb1⟩
  have s1 := hb1.size
  go_wp2_with fail
  refine (whole_some a q ha p cap l w1 ((HB.out.keep hb1).at s1 s1) hlen).mono ?_
  rintro e w2 ⟨rfl, hb2⟩
  go_wp2_with fail
  go_ret2
  exact ⟨rfl, hb1.trans (hb2.mono s1)⟩

set_option maxRecDepth 100000 in
theorem write_none (a : Int) (h0 : 0 ≤ a) (h1 : a ≤ 255) (h : a = 0 ∨ 4 ≤ a) (v : Value) (w : World) :
    Calls Try.prog 13 #[.int .u8 a, v] w fun e w' => e = .returned (.tuple #[.string ⟨#[]⟩, .iface 35 (.int .i64 2)]) ∧ Below w.heap.size w w' := by
  have HL := Lib.hid (letters_none a h0 h1 h)
  clear h h0 h1
  go_enter Try.func13, Try.ntmps13
  go_wp2_with fail
  refine (HL.out _).mono ?_
  rintro e w1 ⟨rfl, hb1⟩
  go_wp2_with fail
  go_ret2
  exact ⟨rfl, hb1⟩

set_option maxRecDepth 100000 in
theorem hex_letters (p : Option Addr) (cap : Nat) (l : List UInt8) (w : World) (hB : Bytes w.heap.size w.heap.size p l w) (hlen : l.length ≤ 134217728) :
    Calls Try.prog 15 #[.slice p l.length cap] w fun e w' => e = .returned (.string (lettersOf 1 4 l)) ∧ Below w.heap.size w w' := by
  have H := Lib.hid (whole_some 1 4 (by decide) p cap l w hB hlen)
  unfold lettersOf
  clear hB
  go_enter Try.func15, Try.ntmps15
  go_wp2_with fail
  refine H.out.mono ?_
  rintro e w1 ⟨rfl, hb1⟩
  go_wp2_with fail
  go_ret
  exact ⟨rfl, hb1⟩
set_option maxRecDepth 100000 in
theorem web_letters (p : Option Addr) (cap : Nat) (l : List UInt8) (w : World) (hB : Bytes w.heap.size w.heap.size p l w) (hlen : l.length ≤ 134217728) :
    Calls Try.prog 17 #[.slice p l.length cap] w fun e w' => e = .returned (.string (lettersOf 3 6 l)) ∧ Below w.heap.size w w' := by
  have H := Lib.hid (whole_some 3 6 (by decide) p cap l w hB hlen)
  unfold lettersOf
  clear hB
  go_enter Try.func17, Try.ntmps17
  go_wp2_with fail
  refine H.out.mono ?_
  rintro e w1 ⟨rfl, hb1⟩
  go_wp2_with fail
  go_ret
  exact ⟨rfl, hb1⟩
end Go.Proofs.Ytaaiikjjfleooaa
