/-
  THE WALKS: the kinds of bytes, and lead.
-/
import Derived.Test.YtgnfknjopafngaaDoorVerMath
import Derived.Test.YtgnfknjopafngaaDoorWalkBase
namespace Go.Proofs.YtgnfknjopafngaaDoor
open Go.RowKit

set_option maxHeartbeats 400000 in
theorem isDigit_any (c : Int) (w : World) :
    Calls Tryd.prog 17 #[.int .u8 c] w fun e w' => e = .returned (.bool (M.isD c)) ∧ w' = w := by
  by_cases h1 : 48 ≤ c
  · by_cases h2 : c ≤ 57
    · go_enter Tryd.func17, Tryd.ntmps17
      go_wp2
      go_ret
      exact ⟨ret_bool (M.isD_t h1 h2).symm, rfl⟩
    · go_enter Tryd.func17, Tryd.ntmps17
      go_wp2
      go_ret
      exact ⟨ret_bool (M.isD_f2 h2).symm, rfl⟩
  · go_enter Tryd.func17, Tryd.ntmps17
    go_wp2
    go_ret
    exact ⟨ret_bool (M.isD_f1 h1).symm, rfl⟩

set_option maxHeartbeats 400000 in
theorem isSmall_any (c : Int) (w : World) :
    Calls Tryd.prog 30 #[.int .u8 c] w fun e w' => e = .returned (.bool (M.isSm c)) ∧ w' = w := by
  by_cases h1 : 97 ≤ c
  · by_cases h2 : c ≤ 122
    · go_enter Tryd.func30, Tryd.ntmps30
      go_wp2
      go_ret
      exact ⟨ret_bool (by unfold M.isSm; simp; omega), rfl⟩
    · go_enter Tryd.func30, Tryd.ntmps30
      go_wp2
      go_ret
      exact ⟨ret_bool (by unfold M.isSm; simp; omega), rfl⟩
  · go_enter Tryd.func30, Tryd.ntmps30
    go_wp2
    go_ret
    exact ⟨ret_bool (by unfold M.isSm; simp; omega), rfl⟩

set_option maxHeartbeats 400000 in
theorem isLetter_any (c : Int) (w : World) :
    Calls Tryd.prog 24 #[.int .u8 c] w fun e w' => e = .returned (.bool (M.isLt c)) ∧ w' = w := by
  by_cases h0 : M.isSm c = true
  · go_enter Tryd.func24, Tryd.ntmps24
    go_wp2_with (go_at_call 30; refine (isSmall_any _ _).mono ?_; rintro e w' ⟨rfl, rfl⟩)
    go_ret
    exact ⟨ret_bool (by unfold M.isSm at h0; unfold M.isLt; simp at h0 ⊢; omega), rfl⟩
  · have h0' : M.isSm c = false := by simpa using h0
    have hn : ¬ (97 ≤ c ∧ c ≤ 122) := by unfold M.isSm at h0; simpa using h0
    have HN : Hid (¬ (97 ≤ c ∧ c ≤ 122)) := hn
    clear hn h0
    by_cases h1 : 65 ≤ c
    · by_cases h2 : c ≤ 90
      · go_enter Tryd.func24, Tryd.ntmps24
        go_wp2_with (go_at_call 30; refine (isSmall_any _ _).mono ?_; rintro e w' ⟨rfl, rfl⟩)
        go_ret
        exact ⟨ret_bool (by have := HN.out; unfold M.isLt; simp; omega), rfl⟩
      · go_enter Tryd.func24, Tryd.ntmps24
        go_wp2_with (go_at_call 30; refine (isSmall_any _ _).mono ?_; rintro e w' ⟨rfl, rfl⟩)
        go_ret
        exact ⟨ret_bool (by have := HN.out; unfold M.isLt; rw [decide_eq_decide]; omega), rfl⟩
    · go_enter Tryd.func24, Tryd.ntmps24
      go_wp2_with (go_at_call 30; refine (isSmall_any _ _).mono ?_; rintro e w' ⟨rfl, rfl⟩)
      go_ret
      exact ⟨ret_bool (by have := HN.out; unfold M.isLt; exact (decide_eq_false (by omega)).symm), rfl⟩

set_option maxHeartbeats 400000 in
/-- lead, whatever the kind is that is handed in. -/
theorem lead_any (f : FuncId) (p : Int → Bool) (he : ∀ args w, (callFunc f args).run Tryd.prog w = .ok (.enter f args) w)
    (hk : ∀ c w, Calls Tryd.prog f #[.int .u8 c] w fun e w' => e = .returned (.bool (p c)) ∧ w' = w) (s : ByteArray) (w : World) (hs : s.size ≤ maxLen) :
    Calls Tryd.prog 14 #[.string s, .func (.func f) #[] #[]] w fun e w' => e = .returned (.int .i64 (M.lead p s.data.toList)) ∧ w' = w := by
  unfold maxLen at hs
  go_enter Tryd.func14, Tryd.ntmps14
  go_wp2
  go_loop [5] (fun i => ∃ k : Nat, k ≤ s.size ∧ i = .int .i64 k ∧ ∀ j (h : j < s.data.toList.length), j < k → p (s.data.toList[j]).toNat = true) (fun i => s.size - (intOf i).toNat)
  case atStart => exact ⟨0, Nat.zero_le _, rfl, fun j _ h => by omega⟩
  case round =>
    obtain ⟨k, hk1, rfl, ha⟩ := hrel
    have HA : Hid (∀ j (h : j < s.data.toList.length), j < k → p (s.data.toList[j]).toNat = true) := ha
    clear ha
    by_cases hlt : k < s.size
    · by_cases hp : p s[k].toNat = true
      · go_wp2_with (go_at_fn f; refine (hk _ _).mono ?_; rintro e w' ⟨rfl, rfl⟩)
        go_round
        case rel =>
          refine ⟨k + 1, by omega, by go_num, fun j hj hjk => ?_⟩
          by_cases hjk' : j < k
          · exact HA.out j hj hjk'
          · obtain rfl : j = k := by omega
            exact hp
        case measure => simp [intOf]; omega
      · have hp' : p s[k].toNat = false := by simpa using hp
        have HP : Hid (p s[k].toNat = false) := hp'
        clear hp
        go_wp2_with (go_at_fn f; refine (hk _ _).mono ?_; rintro e w' ⟨rfl, rfl⟩)
        go_ret
        refine ⟨ret_int ?_, rfl⟩
        rw [M.lead_eq HA.out (by simpa using hk1) (fun h => HP.out)]
    · go_wp2
      go_ret
      refine ⟨ret_int ?_, rfl⟩
      rw [M.lead_eq HA.out (by simpa using hk1) (fun h => by simp at h; omega)]

end Go.Proofs.YtgnfknjopafngaaDoor
