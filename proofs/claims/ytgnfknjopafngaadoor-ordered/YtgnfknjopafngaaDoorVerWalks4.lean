/-
  THE WALKS: the program asked from outside: Compare.
-/
import Derived.Test.YtgnfknjopafngaaDoorVerWalks3
namespace Go.Proofs.YtgnfknjopafngaaDoor
open Go.RowKit

set_option maxHeartbeats 400000 in
theorem pcompare_any (a b : ByteArray) (w : World) (ha : a.size ≤ maxLen) (hb : b.size ≤ maxLen) :
    Calls Tryd.prog 7 #[.string a, .string b] w fun e w' => e = .returned (.int .i64 (M.verC a.data.toList b.data.toList)) ∧ ∃ n, w' = w.drewN n := by
  go_enter Tryd.func7, Tryd.ntmps7
  go_wp2_with (go_at_call 12; refine (compareV_any _ _ _ ha hb).mono ?_; rintro e w' ⟨rfl, n, rfl⟩)
  go_ret
  exact ⟨rfl, n, rfl⟩
set_option maxHeartbeats 400000 in
theorem plainCompare_any (a b : ByteArray) (w : World) (ha : a.size ≤ maxLen) (hb : b.size ≤ maxLen) :
    Calls Tryd.prog 5 #[.string a, .string b] w fun e w' => e = .returned (.int .i64 (M.verC a.data.toList b.data.toList)) ∧ ∃ n, w' = w.drewN n := by
  go_enter Tryd.func5, Tryd.ntmps5
  go_wp2_with (go_at_call 7; refine (pcompare_any _ _ _ ha hb).mono ?_; rintro e w' ⟨rfl, n, rfl⟩)
  go_ret
  exact ⟨rfl, n, rfl⟩

/-- Which of two versions is the earlier one, of strings: behind a name of its own. -/
theorem plain_c (a b : ByteArray) (w : World) (ha : a.size ≤ maxLen) (hb : b.size ≤ maxLen) :
    Calls Tryd.prog 5 #[.string a, .string b] w fun e w' => e = .returned (.int .i64 (verB a b)) ∧ ∃ n, w' = w.drewN n := plainCompare_any a b w ha hb

end Go.Proofs.YtgnfknjopafngaaDoor
