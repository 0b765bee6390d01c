/- A part that is too long is refused. -/
import Derived.Test.YtphgaemmbdogmaaDoorShaNil
import Derived.Test.YtphgaemmbdogmaaDoorShaWrite
namespace Go.Proofs.YtphgaemmbdogmaaDoor
open Go.ChangeShapes Go.WideShapes Go.ChangeAt Go.RowKit Go.Lib

set_option maxRecDepth 100000 in
set_option maxHeartbeats 4000000 in
theorem write_long (b : Nat) (st0 : List Int) (bl0 : Nat) (l : List UInt8) (pb off cap : Nat) (q : Option Addr) (m c : Nat) (w : World) (hH : Took b st0 bl0 l w) (hc : w.cell? ⟨pb, off, none⟩ = some (.slice q m c))
    (h1 : bl0 * 64 + l.length < 2305843009213693952) (h2 : m < 2305843009213693952) (h3 : 2305843009213693952 ≤ bl0 * 64 + l.length + m) :
    Calls Tryd.prog 21 #[.pointer (some ⟨b, 0, none⟩), .slice (some ⟨pb, off, none⟩) 1 cap] w fun e w' => e = .returned (.iface 84 (.int .i64 3)) ∧ ∃ n, w' = w.drewN n := by
  obtain ⟨rest, hHB, hrest⟩ := hH
  have HLen := Lib.hid (len_any b _ _ rest _ w hHB)
  have hlen0 : (blk bl0 (l.length / 64) * 64 + ((l.length % 64 : Nat) : Int)) % 18446744073709551616 = ((bl0 * 64 + l.length : Nat) : Int) := by unfold blk; omega
  obtain ⟨T, hTT⟩ : ∃ T, bl0 * 64 + l.length = T := ⟨_, rfl⟩
  rw [hTT] at hlen0 h1 h3
  rw [hlen0] at HLen
  have HC := Lib.hid hc
  obtain ⟨u, hu⟩ : ∃ u, T + m = u := ⟨_, rfl⟩
  rw [hu] at h3
  have e1 : IntKind.u64.wrap ((T : Int) + (m : Int)) = (u : Int) := by show ((T : Int) + (m : Int)) % 18446744073709551616 = _; omega
  have e2 : (T : Int) + (m : Int) = (u : Int) := by omega
  have e3 : IntKind.u64.wrap (m : Int) = (m : Int) := by show (m : Int) % 18446744073709551616 = _; omega
  have hdm : decide ((2305843009213693952 : Int) ≤ (u : Int)) = true := decide_eq_true (by omega)
  have E := Lib.hid (And.intro e1 (And.intro e2 (And.intro e3 hdm)))
  clear hHB hrest hlen0 hTT hc e1 e2 e3 hdm hu h1 h2 h3
  go_enter Tryd.func21, Tryd.ntmps21
  go_wp2_with fail
  refine HLen.out.mono ?_
  rintro e w1 ⟨rfl, n1, rfl⟩
  have HN : Hid (∃ n, w.drewN n1 = w.drewN n) := Lib.hid ⟨n1, rfl⟩
  have c1 : (w.drewN n1).cell? ⟨pb, off, none⟩ = some (.slice q m c) := HC.out
  generalize w.drewN n1 = v at HN c1 ⊢
  go_wp2_with fail
  go_loop [5, 17] (fun s v => v = .int .i64 0 ∧ s = .int .u64 (T : Int)) (fun _ v => 1)
  case atStart => exact ⟨rfl, rfl⟩
  case round =>
    obtain ⟨rfl, rfl⟩ := hrel
    obtain ⟨e1, -, e3, hdm⟩ := E.out
    go_wp2_with fail
    go_ret
    exact ⟨rfl, HN.out⟩
end Go.Proofs.YtphgaemmbdogmaaDoor
