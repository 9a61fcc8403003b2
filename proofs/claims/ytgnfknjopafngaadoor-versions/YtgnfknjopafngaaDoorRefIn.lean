/-
  THE DOCUMENT's ANSWER: in.
-/
import Derived.Test.YtgnfknjopafngaaDoorWalkBase
namespace Go.Proofs.YtgnfknjopafngaaDoor
open Go.RowKit

theorem at_eq (s t : ByteArray) (k : Nat) : ((t.extract k (k + s.size)).toList == s.toList) = M.at' s.data.toList t.data.toList k := by
  unfold M.at'
  rw [Lib.toList_data, Lib.toList_data, Lib.extract_data]
  simp

set_option maxHeartbeats 1000000 in
theorem in_any (s t : ByteArray) (w : World) (hs : s.size + t.size ≤ 4611686018427387904) :
    Calls Tryd.prog 13 #[.string s, .string t] w fun e w' => e = .returned (.bool (M.inn s.data.toList t.data.toList)) ∧ w' = w := by
  go_enter Tryd.func13, Tryd.ntmps13
  go_wp2
  go_loop [5] (fun i => ∃ k : Nat, k ≤ t.size + 1 ∧ i = .int .i64 k ∧ ∀ j, j < k → M.at' s.data.toList t.data.toList j = false) (fun i => t.size + 1 - (intOf i).toNat)
  case atStart => exact ⟨0, Nat.zero_le _, rfl, fun j h => by omega⟩
  case round =>
    obtain ⟨k, hk1, rfl, ha⟩ := hrel
    have HA : Hid (∀ j, j < k → M.at' s.data.toList t.data.toList j = false) := ha
    clear ha
    by_cases hlt : k + s.size ≤ t.size
    · by_cases hm : ((t.extract k (k + s.size)).toList == s.toList) = true
      · have HM : Hid (((t.extract k (k + s.size)).toList == s.toList) = true) := hm
        go_wp2
        go_ret
        exact ⟨ret_bool (M.inn_yes (k := k) (by simpa using hlt) (by rw [← at_eq]; exact HM.out)).symm, rfl⟩
      · have hm' : ((t.extract k (k + s.size)).toList == s.toList) = false := by simpa using hm
        clear hm
        have HM : Hid (((t.extract k (k + s.size)).toList == s.toList) = false) := hm'
        go_wp2
        go_round
        case rel =>
          refine ⟨k + 1, by omega, by go_num, fun j hj => ?_⟩
          by_cases hjk : j < k
          · exact HA.out j hjk
          · obtain rfl : j = k := by omega
            rw [← at_eq]; exact HM.out
        case measure => simp [intOf]; omega
    · go_wp2
      go_ret
      exact ⟨ret_bool (M.inn_no HA.out (by simp; omega)).symm, rfl⟩

end Go.Proofs.YtgnfknjopafngaaDoor
