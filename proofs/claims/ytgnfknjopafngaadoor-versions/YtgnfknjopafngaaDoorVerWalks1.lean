/-
  THE WALKS, 1: the code's functions under Compare.
-/
import Derived.Test.YtgnfknjopafngaaDoorCodeLead
namespace Go.Proofs.YtgnfknjopafngaaDoor
open Go.RowKit

set_option maxRecDepth 100000 in
set_option maxHeartbeats 400000 in
theorem isNoDigit_any (c : Int) (w : World) :
    Calls Tryd.prog 15 #[.int .u8 c] w fun e w' => e = .returned (.bool (M.isNo c)) ∧ w' = w := by
  go_enter Tryd.func15, Tryd.ntmps15
  go_wp2_with (go_at_call 17; refine (isDigit_any _ _).mono ?_; rintro e w' ⟨rfl, rfl⟩)
  go_ret
  exact ⟨rfl, rfl⟩

theorem leadNo_any (s : ByteArray) (w : World) (hs : s.size ≤ maxLen) :
    Calls Tryd.prog 14 #[.string s, .func (.func 15) #[] #[]] w fun e w' => e = .returned (.int .i64 (M.lead M.isNo s.data.toList)) ∧ w' = w :=
  lead_any 15 M.isNo (enters_of Tryd.func15 (by kernel_rfl) rfl) isNoDigit_any s w hs
theorem leadD_any (s : ByteArray) (w : World) (hs : s.size ≤ maxLen) :
    Calls Tryd.prog 14 #[.string s, .func (.func 17) #[] #[]] w fun e w' => e = .returned (.int .i64 (M.lead M.isD s.data.toList)) ∧ w' = w :=
  lead_any 17 M.isD (enters_of Tryd.func17 (by kernel_rfl) rfl) isDigit_any s w hs

set_option maxRecDepth 100000 in
set_option maxHeartbeats 400000 in
theorem isNaN_any (c : Int) (w : World) :
    Calls Tryd.prog 23 #[.int .i64 c] w fun e w' => e = .returned (.bool false) ∧ w' = w := by
  go_enter Tryd.func23, Tryd.ntmps23
  go_wp2
  go_ret
  exact ⟨ret_bool (by simp), rfl⟩

set_option maxRecDepth 100000 in
set_option maxHeartbeats 400000 in
theorem cmpInt_any (x y : Int) (w : World) :
    Calls Tryd.prog 19 #[.int .i64 x, .int .i64 y] w fun e w' => e = .returned (.int .i64 (M.cmpI x y)) ∧ w' = w := by
  by_cases h1 : x < y
  · go_enter Tryd.func19, Tryd.ntmps19
    go_wp2_with (go_at_call 23; refine (isNaN_any _ _).mono ?_; rintro e w' ⟨rfl, rfl⟩)
    go_ret
    exact ⟨ret_int (by unfold M.cmpI; rw [if_pos h1]), rfl⟩
  · by_cases h2 : y < x
    · go_enter Tryd.func19, Tryd.ntmps19
      go_wp2_with (go_at_call 23; refine (isNaN_any _ _).mono ?_; rintro e w' ⟨rfl, rfl⟩)
      go_ret
      exact ⟨ret_int (by unfold M.cmpI; rw [if_neg (by omega), if_pos h2]), rfl⟩
    · go_enter Tryd.func19, Tryd.ntmps19
      go_wp2_with (go_at_call 23; refine (isNaN_any _ _).mono ?_; rintro e w' ⟨rfl, rfl⟩)
      go_ret
      exact ⟨ret_int (by unfold M.cmpI; rw [if_neg (by omega), if_neg (by omega)]), rfl⟩

theorem ranks_get (s : ByteArray) (k : Nat) (h : k < s.size) : (M.ranks s.data.toList).getD k 0 = M.rk s[k].toNat := by
  unfold M.ranks
  have h' : k < s.data.toList.length := by simpa using h
  rw [List.getD_eq_getElem?_getD, List.getElem?_map, List.getElem?_eq_getElem h']
  rfl
theorem ranks_end (s : ByteArray) (k : Nat) (h : s.size ≤ k) : (M.ranks s.data.toList).getD k 0 = 0 := by
  unfold M.ranks
  have h' : s.data.toList.length ≤ k := by simpa using h
  rw [List.getD_eq_getElem?_getD, List.getElem?_eq_none (by simpa using h')]
  rfl

set_option maxRecDepth 100000 in
set_option maxHeartbeats 400000 in
theorem rank_end (s : ByteArray) (k : Nat) (w : World) (h : s.size ≤ k) :
    Calls Tryd.prog 20 #[.string s, .int .i64 k] w fun e w' => e = .returned (.int .i64 0) ∧ w' = w := by
  go_enter Tryd.func20, Tryd.ntmps20
  go_wp2
  go_ret
  exact ⟨rfl, rfl⟩

set_option maxRecDepth 100000 in
set_option maxHeartbeats 400000 in
theorem rank_in (s : ByteArray) (k : Nat) (w : World) (h : k < s.size) :
    Calls Tryd.prog 20 #[.string s, .int .i64 k] w fun e w' => e = .returned (.int .i64 (M.rk s[k].toNat)) ∧ w' = w := by
  have hb := s[k].toNat_lt
  by_cases h1 : (s[k].toNat : Int) = 126
  · have h1' : ((s[k].toNat : Int) == 126) = true := by simpa using h1
    have H1 : Hid ((s[k].toNat : Int) = 126) := h1
    clear h1
    go_enter Tryd.func20, Tryd.ntmps20
    go_wp2
    go_ret
    exact ⟨ret_int (by unfold M.rk; rw [if_pos H1.out]), rfl⟩
  · have h1' : ((s[k].toNat : Int) == 126) = false := by simpa using h1
    have H1 : Hid (¬ (s[k].toNat : Int) = 126) := h1
    clear h1
    by_cases h2 : M.isLt s[k].toNat = true
    · go_enter Tryd.func20, Tryd.ntmps20
      go_wp2_with (go_at_call 24; refine (isLetter_any _ _).mono ?_; rintro e w' ⟨rfl, rfl⟩)
      go_ret
      exact ⟨ret_int (by unfold M.rk; rw [if_neg H1.out, if_pos h2]), rfl⟩
    · have h2' : M.isLt s[k].toNat = false := by simpa using h2
      clear h2
      go_enter Tryd.func20, Tryd.ntmps20
      go_wp2_with (go_at_call 24; refine (isLetter_any _ _).mono ?_; rintro e w' ⟨rfl, rfl⟩)
      go_ret
      exact ⟨ret_int (by unfold M.rk; rw [if_neg H1.out, h2']; simp), rfl⟩

theorem rank_any (s : ByteArray) (k : Nat) (w : World) :
    Calls Tryd.prog 20 #[.string s, .int .i64 k] w fun e w' => e = .returned (.int .i64 (M.rkAt s.data.toList k)) ∧ w' = w := by
  unfold M.rkAt
  by_cases h : k < s.size
  · rw [ranks_get s k h]; exact rank_in s k w h
  · rw [ranks_end s k (by omega)]; exact rank_end s k w (by omega)
end Go.Proofs.YtgnfknjopafngaaDoor
