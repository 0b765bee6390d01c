/- wakes answers true: Parse of 12, its Text, and the product of 3 and 5. -/
import Derived.Test.YtjppdlgeigocgaaDoorText12
namespace Go.Proofs.YtjppdlgeigocgaaDoor
open Go.RowKit Go.Lib Go.Shelf

set_option maxHeartbeats 1000000 in
theorem wakes_any (w : World) :
    Calls Tryd.prog 26 #[] w fun e w' => e = .returned (.bool true) ∧ Below w.heap.size w w' := by
  go_enter Tryd.func26, Tryd.ntmps26
  go_wp2_with fail
  refine (parse12 _).mono ?_
  rintro e w1 ⟨b, rfl, hb, hbb, hB1⟩
  have h1 := fun ob => cell_alloc hb ob
  have HB1 := Lib.hid hB1
  clear hB1 hbb
  go_wp2_with fail
  refine (text12 b _ (h1 _)).mono ?_
  rintro e w2 ⟨rfl, hB2⟩
  have HB2 := Lib.hid hB2
  clear hB2 h1 hb
  go_wp2_with fail
  refine (mul_any 3 5 (by omega) (by omega) _).mono ?_
  rintro e w3 ⟨rfl, c3, rfl⟩
  go_wp2
  go_ret
  have h := old_trans (HB1.out.alloc HB1.out.size _) HB2.out
  exact ⟨rfl, h.alloc h.size _⟩
end Go.Proofs.YtjppdlgeigocgaaDoor
