/-
  THE LAW Versions, WALKED.
-/
import Derived.Test.YtgnfknjopafngaaDoorRefCmp
import Derived.Test.YtgnfknjopafngaaDoorVerWalks4
namespace Go.Proofs.YtgnfknjopafngaaDoor
open Go.RowKit

set_option maxHeartbeats 400000 in
theorem versions_long (a b : ByteArray) (w : World) (hl : 8192 < (a.size : Int) + b.size) (hm : (a.size : Int) + b.size ≤ 9223372036854775807) :
    Calls Tryd.prog 3 #[.string a, .string b] w fun e w' => e = .returned (.bool true) ∧ Below w.heap.size w w' := by
  go_enter Tryd.func3, Tryd.ntmps3
  go_wp2
  go_ret
  exact ⟨rfl, Below.refl _ _⟩

set_option maxHeartbeats 400000 in
theorem versions_short (a b : ByteArray) (w : World) (hl : (a.size : Int) + b.size ≤ 8192) :
    Calls Tryd.prog 3 #[.string a, .string b] w fun e w' => e = .returned (.bool true) ∧ Below w.heap.size w w' := by
  go_enter Tryd.func3, Tryd.ntmps3
  go_wp2_with (first | (go_at_call 5; refine (plain_c _ _ _ (by unfold maxLen; omega) (by unfold maxLen; omega)).mono ?_; rintro e w' ⟨rfl, n, rfl⟩) | (go_at_call 6; refine (refCompare_any _ _ _ (by omega) (by omega)).mono ?_; rintro e w' ⟨rfl, hb'⟩))
  go_ret
  exact ⟨ret_bool (by simp), bt (below_same w n) ‹_›⟩

theorem versions_walk (a b : ByteArray) (w : World) (hm : (a.size : Int) + b.size ≤ 9223372036854775807) :
    Calls Tryd.prog 3 #[.string a, .string b] w fun e w' => e = .returned (.bool true) ∧ Below w.heap.size w w' := by
  by_cases hl : (a.size : Int) + b.size ≤ 8192
  · exact versions_short a b w hl
  · exact versions_long a b w (by omega) hm
end Go.Proofs.YtgnfknjopafngaaDoor
