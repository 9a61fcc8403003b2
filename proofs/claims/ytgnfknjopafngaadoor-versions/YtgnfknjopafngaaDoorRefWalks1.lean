/-
  THE WALKS OF THE DOCUMENT's ANSWER, 1: sign, part, in, letter, numbers.
-/
import Derived.Test.YtgnfknjopafngaaDoorVerWalks3
import Derived.Test.YtgnfknjopafngaaDoorRefIn
namespace Go.Proofs.YtgnfknjopafngaaDoor
open Go.RowKit

set_option maxRecDepth 100000 in
set_option maxHeartbeats 400000 in
theorem sign_any (x : Int) (w : World) :
    Calls Tryd.prog 10 #[.int .i64 x] w fun e w' => e = .returned (.int .i64 (M.cmpI x 0)) ∧ w' = w := by
  by_cases h1 : x < 0
  · go_enter Tryd.func10, Tryd.ntmps10
    go_wp2
    go_ret
    exact ⟨ret_int (by unfold M.cmpI; rw [if_pos h1]), rfl⟩
  · by_cases h2 : 0 < x
    · go_enter Tryd.func10, Tryd.ntmps10
      go_wp2
      go_ret
      exact ⟨ret_int (by unfold M.cmpI; rw [if_neg (by omega), if_pos h2]), rfl⟩
    · go_enter Tryd.func10, Tryd.ntmps10
      go_wp2
      go_ret
      exact ⟨ret_int (by unfold M.cmpI; rw [if_neg (by omega), if_neg (by omega)]), rfl⟩

set_option maxRecDepth 100000 in
set_option maxHeartbeats 1000000 in
theorem partD_any (s : ByteArray) (w : World) (hs : s.size ≤ maxLen) :
    Calls Tryd.prog 8 #[.string s, .bool true] w fun e w' => e = .returned (.int .i64 (diB s)) ∧ w' = w := by
  unfold maxLen at hs
  go_enter Tryd.func8, Tryd.ntmps8
  go_wp2
  go_loop [5] (fun i => ∃ k : Nat, k ≤ s.size ∧ i = .int .i64 k ∧ ∀ j (h : j < s.data.toList.length), j < k → M.isD (s.data.toList[j]).toNat = true) (fun i => s.size - (intOf i).toNat)
  case atStart => exact ⟨0, Nat.zero_le _, rfl, fun j _ h => by omega⟩
  case round =>
    obtain ⟨k, hk1, rfl, ha⟩ := hrel
    have HA : Hid (∀ j (h : j < s.data.toList.length), j < k → M.isD (s.data.toList[j]).toNat = true) := ha
    clear ha
    by_cases hlt : k < s.size
    · by_cases h1 : 48 ≤ (s[k].toNat : Int)
      · by_cases h2 : (s[k].toNat : Int) ≤ 57
        · go_wp2
          go_round
          case rel =>
            refine ⟨k + 1, by omega, by go_num, fun j hj hjk => ?_⟩
            by_cases hjk' : j < k
            · exact HA.out j hj hjk'
            · obtain rfl : j = k := by omega
              exact M.isD_t h1 h2
          case measure => simp [intOf]; omega
        · go_wp2
          go_ret
          exact ⟨ret_int (by unfold diB; rw [M.lead_eq HA.out (by simpa using hk1) (fun _ => M.isD_f2 (c := s[k].toNat) (by omega))]), rfl⟩
      · go_wp2
        go_ret
        exact ⟨ret_int (by unfold diB; rw [M.lead_eq HA.out (by simpa using hk1) (fun _ => M.isD_f1 (c := s[k].toNat) (by omega))]), rfl⟩
    · go_wp2
      go_ret
      exact ⟨ret_int (by unfold diB; rw [M.lead_eq HA.out (by simpa using hk1) (fun h => by simp at h; omega)]), rfl⟩

set_option maxRecDepth 100000 in
set_option maxHeartbeats 1000000 in
theorem partN_any (s : ByteArray) (w : World) (hs : s.size ≤ maxLen) :
    Calls Tryd.prog 8 #[.string s, .bool false] w fun e w' => e = .returned (.int .i64 (noB s)) ∧ w' = w := by
  unfold maxLen at hs
  go_enter Tryd.func8, Tryd.ntmps8
  go_wp2
  go_loop [5] (fun i => ∃ k : Nat, k ≤ s.size ∧ i = .int .i64 k ∧ ∀ j (h : j < s.data.toList.length), j < k → M.isNo (s.data.toList[j]).toNat = true) (fun i => s.size - (intOf i).toNat)
  case atStart => exact ⟨0, Nat.zero_le _, rfl, fun j _ h => by omega⟩
  case round =>
    obtain ⟨k, hk1, rfl, ha⟩ := hrel
    have HA : Hid (∀ j (h : j < s.data.toList.length), j < k → M.isNo (s.data.toList[j]).toNat = true) := ha
    clear ha
    by_cases hlt : k < s.size
    · by_cases h1 : 48 ≤ (s[k].toNat : Int)
      · by_cases h2 : (s[k].toNat : Int) ≤ 57
        · go_wp2
          go_ret
          exact ⟨ret_int (by unfold noB; rw [M.lead_eq HA.out (by simpa using hk1) (fun _ => by show M.isNo s[k].toNat = false; unfold M.isNo; rw [M.isD_t h1 h2]; rfl)]), rfl⟩
        · go_wp2
          go_round
          case rel =>
            refine ⟨k + 1, by omega, by go_num, fun j hj hjk => ?_⟩
            by_cases hjk' : j < k
            · exact HA.out j hj hjk'
            · obtain rfl : j = k := by omega
              show M.isNo s[j].toNat = true
              unfold M.isNo; rw [M.isD_f2 (by omega)]; rfl
          case measure => simp [intOf]; omega
      · go_wp2
        go_round
        case rel =>
          refine ⟨k + 1, by omega, by go_num, fun j hj hjk => ?_⟩
          by_cases hjk' : j < k
          · exact HA.out j hj hjk'
          · obtain rfl : j = k := by omega
            show M.isNo s[j].toNat = true
            unfold M.isNo; rw [M.isD_f1 (by omega)]; rfl
        case measure => simp [intOf]; omega
    · go_wp2
      go_ret
      exact ⟨ret_int (by unfold noB; rw [M.lead_eq HA.out (by simpa using hk1) (fun h => by simp at h; omega)]), rfl⟩

theorem conv_one (c : UInt8) (w : World) :
    (convert 28 9 (.slice (some ⟨w.heap.size, 0, none⟩) 1 1)).run Tryd.prog (w.alloc (.cells #[.int .u8 c.toNat] 5)) = .ok (.string ⟨#[c]⟩) (w.alloc (.cells #[.int .u8 c.toNat] 5)) := by
  have h := run_convert_bytes_back (P := Tryd.prog) (w.alloc (.cells #[.int .u8 c.toNat] 5)) 28 9 5 ⟨w.heap.size, 0, none⟩ 1 [c] Tryd.underlying28 Tryd.underlying5 Tryd.underlying9 (by
    intro j hj
    obtain rfl : j = 0 := by simpa using hj
    simp [Addr.add])
  exact h

theorem letters_all : ∀ c : UInt8, (([97, 98, 99, 100, 101, 102, 103, 104, 105, 106, 107, 108, 109, 110, 111, 112, 113, 114, 115, 116, 117, 118, 119, 120, 121, 122, 65, 66, 67, 68, 69, 70, 71, 72, 73, 74, 75, 76, 77, 78, 79, 80, 81, 82, 83, 84, 85, 86, 87, 88, 89, 90] : List UInt8).contains c) = M.isLt c.toNat := by
  intro c
  unfold M.isLt
  have h : ∀ n : Nat, n < 256 → (([97, 98, 99, 100, 101, 102, 103, 104, 105, 106, 107, 108, 109, 110, 111, 112, 113, 114, 115, 116, 117, 118, 119, 120, 121, 122, 65, 66, 67, 68, 69, 70, 71, 72, 73, 74, 75, 76, 77, 78, 79, 80, 81, 82, 83, 84, 85, 86, 87, 88, 89, 90] : List UInt8).contains (UInt8.ofNat n)) = decide ((97 ≤ (n : Int) ∧ (n : Int) ≤ 122) ∨ (65 ≤ (n : Int) ∧ (n : Int) ≤ 90)) := by decide +kernel
  have := h c.toNat c.toNat_lt
  rwa [UInt8.ofNat_toNat] at this

set_option maxRecDepth 100000 in
set_option maxHeartbeats 1000000 in
theorem letter_any (c : UInt8) (w : World) :
    Calls Tryd.prog 9 #[.int .u8 c.toNat] w fun e w' => e = .returned (.int .i64 (M.rkR c.toNat)) ∧ Below w.heap.size w w' := by
  have hb := c.toNat_lt
  have hl := letters_all c
  by_cases h2 : (c.toNat : Int) = 126
  · have h2' : ((c.toNat : Int) == 126) = true := by simpa using h2
    have H2 : Hid ((c.toNat : Int) = 126) := h2
    clear h2
    go_enter Tryd.func9, Tryd.ntmps9
    go_wp2
    go_ret
    exact ⟨ret_int (by unfold M.rkR; rw [if_pos H2.out]), Below.refl _ _⟩
  · have h2' : ((c.toNat : Int) == 126) = false := by simpa using h2
    have H2 : Hid (¬ (c.toNat : Int) = 126) := h2
    clear h2
    have hcv := conv_one c w
    have hi := M.inn_one c [97, 98, 99, 100, 101, 102, 103, 104, 105, 106, 107, 108, 109, 110, 111, 112, 113, 114, 115, 116, 117, 118, 119, 120, 121, 122, 65, 66, 67, 68, 69, 70, 71, 72, 73, 74, 75, 76, 77, 78, 79, 80, 81, 82, 83, 84, 85, 86, 87, 88, 89, 90]
    rw [hl] at hi
    have HI := hi
    clear hl
    have cI : ∀ wx, Calls Tryd.prog 13 #[.string ⟨#[c]⟩, .string ⟨#[97, 98, 99, 100, 101, 102, 103, 104, 105, 106, 107, 108, 109, 110, 111, 112, 113, 114, 115, 116, 117, 118, 119, 120, 121, 122, 65, 66, 67, 68, 69, 70, 71, 72, 73, 74, 75, 76, 77, 78, 79, 80, 81, 82, 83, 84, 85, 86, 87, 88, 89, 90]⟩] wx fun e w' => e = .returned (.bool (M.isLt c.toNat)) ∧ w' = wx := fun wx => by
      rw [← hi]; exact in_any ⟨#[c]⟩ _ wx (by simp [ByteArray.size])
    clear hi HI
    by_cases h3 : M.isLt c.toNat = true
    · have h4 : (c.toNat : Int) < 128 := by unfold M.isLt at h3; simp at h3; omega
      go_enter Tryd.func9, Tryd.ntmps9
      go_wp2_with (go_at_call 13; refine (cI _).mono ?_; rintro e w' ⟨rfl, rfl⟩)
      go_ret
      exact ⟨ret_int (by unfold M.rkR; rw [if_neg H2.out, if_pos h3]), (Below.refl _ _).alloc (Nat.le_refl _) _⟩
    · have h3' : M.isLt c.toNat = false := by simpa using h3
      clear h3
      go_enter Tryd.func9, Tryd.ntmps9
      go_wp2_with (go_at_call 13; refine (cI _).mono ?_; rintro e w' ⟨rfl, rfl⟩)
      go_ret
      exact ⟨ret_int (by unfold M.rkR; rw [if_neg H2.out, h3']; simp), (Below.refl _ _).alloc (Nat.le_refl _) _⟩
end Go.Proofs.YtgnfknjopafngaaDoor
