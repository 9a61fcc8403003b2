/-
  THE WALKS, 2: compareWords, compareNumbers, CompareVersions.
-/
import Derived.Test.YtgnfknjopafngaaDoorVerWalks1
namespace Go.Proofs.YtgnfknjopafngaaDoor
open Go.RowKit

set_option maxRecDepth 100000 in
set_option maxHeartbeats 400000 in
theorem words_any (a b : ByteArray) (w : World) (ha : a.size ≤ maxLen) (hb : b.size ≤ maxLen) :
    Calls Tryd.prog 16 #[.string a, .string b] w fun e w' => e = .returned (.int .i64 (M.wordC a.data.toList b.data.toList)) ∧ w' = w := by
  unfold maxLen at ha hb
  go_enter Tryd.func16, Tryd.ntmps16
  go_wp2
  go_loop [5, 6, 12] (fun _ _ c => ∃ k : Nat, (k : Int) ≤ max (a.size : Int) (b.size : Int) ∧ c = .int .i64 k ∧ ∀ j, j < k → M.rkAt a.data.toList j = M.rkAt b.data.toList j) (fun _ _ c => (max (a.size : Int) (b.size : Int) - intOf c).toNat)
  case atStart => exact ⟨0, by omega, rfl, fun j h => by omega⟩
  case round =>
    obtain ⟨k, hk1, rfl, hj⟩ := hrel
    have HJ : Hid (∀ j, j < k → M.rkAt a.data.toList j = M.rkAt b.data.toList j) := hj
    clear hj
    by_cases hlt : (k : Int) < max (a.size : Int) (b.size : Int)
    · by_cases hd : M.cmpI (M.rkAt a.data.toList k) (M.rkAt b.data.toList k) = 0
      · have hd' : (M.cmpI (M.rkAt a.data.toList k) (M.rkAt b.data.toList k) != 0) = false := by simpa using hd
        have HD : Hid (M.cmpI (M.rkAt a.data.toList k) (M.rkAt b.data.toList k) = 0) := hd
        clear hd
        go_wp2_with (first | (go_at_call 20; refine (rank_any _ _ _).mono ?_; rintro e w' ⟨rfl, rfl⟩) | (go_at_call 19; refine (cmpInt_any _ _ _).mono ?_; rintro e w' ⟨rfl, rfl⟩))
        go_round
        case rel =>
          refine ⟨k + 1, by omega, by go_num, fun j hj => ?_⟩
          by_cases hjk : j < k
          · exact HJ.out j hjk
          · obtain rfl : j = k := by omega
            exact M.cmpI_zero.mp HD.out
        case measure => simp [intOf]; omega
      · have hd' : (M.cmpI (M.rkAt a.data.toList k) (M.rkAt b.data.toList k) != 0) = true := by simpa using hd
        have HD : Hid (¬ M.cmpI (M.rkAt a.data.toList k) (M.rkAt b.data.toList k) = 0) := hd
        clear hd
        go_wp2_with (first | (go_at_call 20; refine (rank_any _ _ _).mono ?_; rintro e w' ⟨rfl, rfl⟩) | (go_at_call 19; refine (cmpInt_any _ _ _).mono ?_; rintro e w' ⟨rfl, rfl⟩))
        go_ret
        exact ⟨ret_int (M.wordC_diff HJ.out HD.out).symm, rfl⟩
    · go_wp2
      go_ret
      exact ⟨ret_int (M.wordC_same HJ.out (by simp; omega) (by simp; omega)).symm, rfl⟩

set_option maxRecDepth 100000 in
set_option maxHeartbeats 400000 in
theorem trimByte_any (s : ByteArray) (w : World) :
    Calls Tryd.prog 25 #[.string s, .int .u8 48] w fun e w' => e = .returned (.string ⟨(M.strip s.data.toList).toArray⟩) ∧ w' = w := by
  go_enter Tryd.func25, Tryd.ntmps25
  go_wp2
  go_loop [0] (fun v => ∃ t : ByteArray, v = .string t ∧ t.size ≤ s.size ∧ M.strip t.data.toList = M.strip s.data.toList) (fun v => lenOf v)
  case atStart => exact ⟨s, rfl, Nat.le_refl _, rfl⟩
  case round =>
    obtain ⟨t, rfl, hts, ht⟩ := hrel
    have HT : Hid (M.strip t.data.toList = M.strip s.data.toList) := ht
    clear ht
    by_cases h0 : 0 < t.size
    · by_cases h1 : (t[0].toNat : Int) = 48
      · have h1' : ((t[0].toNat : Int) == 48) = true := by simpa using h1
        have H1 : Hid ((t[0].toNat : Int) = 48) := h1
        clear h1
        go_wp2
        go_round
        case rel =>
          refine ⟨_, rfl, ?_, ?_⟩
          · have := ext_size t 1 t.size; omega
          · rw [ext_from, ← HT.out]
            exact M.strip_nought (by simpa using h0) (by have := H1.out; show t[0].toNat = 48; omega)
        case measure => simp [lenOf]; omega
      · have h1' : ((t[0].toNat : Int) == 48) = false := by simpa using h1
        have H1 : Hid (¬ (t[0].toNat : Int) = 48) := h1
        clear h1
        go_wp2
        go_ret
        refine ⟨ret_str ?_, rfl⟩
        refine bytes_of ?_
        show t.data.toList = _
        rw [mk_toList, ← HT.out, M.strip_stop (by simpa using h0) (by have := H1.out; show ¬ t[0].toNat = 48; omega)]
    · go_wp2
      go_ret
      refine ⟨ret_str ?_, rfl⟩
      refine bytes_of ?_
      show t.data.toList = _
      rw [mk_toList, ← HT.out, M.strip_nil (by simpa using h0)]

set_option maxRecDepth 100000 in
set_option maxHeartbeats 400000 in
theorem trimLeft_any (s : ByteArray) (w : World) :
    Calls Tryd.prog 21 #[.string s, .string ⟨#[48]⟩] w fun e w' => e = .returned (.string ⟨(M.strip s.data.toList).toArray⟩) ∧ w' = w := by
  by_cases h0 : s.toList.isEmpty = true
  · go_enter Tryd.func21, Tryd.ntmps21
    go_wp2
    go_ret
    refine ⟨ret_str (bytes_of ?_), rfl⟩
    show s.data.toList = _
    rw [Lib.toList_data] at h0
    rw [mk_toList, M.strip_nil (by simp at h0; simp [h0])]
  · have h0' : s.toList.isEmpty = false := by simpa using h0
    clear h0
    go_enter Tryd.func21, Tryd.ntmps21
    go_wp2_with (go_at_call 25; refine (trimByte_any _ _).mono ?_; rintro e w' ⟨rfl, rfl⟩)
    go_ret
    exact ⟨rfl, rfl⟩

set_option maxRecDepth 100000 in
set_option maxHeartbeats 400000 in
theorem bytealg_any (a b : ByteArray) (w : World) :
    Calls Tryd.prog 29 #[.string a, .string b] w fun e w' => e = .returned (.int .i64 (Lib.compareBytes a.data.toList b.data.toList)) ∧ w' = w := by
  go_enter Tryd.func29, Tryd.ntmps29
  go_wp2
  rw [run_callFunc_extern Tryd.func34 (by kernel_rfl) (by kernel_rfl) (by kernel_rfl) (e := Extern.BytealgCompare.compare) (by kernel_rfl), Lib.run_compareString]
  simp only [Result.andThen]
  rw [Oper.upon_value]
  go_wp2
  go_ret
  exact ⟨rfl, rfl⟩

set_option maxRecDepth 100000 in
set_option maxHeartbeats 400000 in
theorem scompare_any (a b : ByteArray) (w : World) :
    Calls Tryd.prog 22 #[.string a, .string b] w fun e w' => e = .returned (.int .i64 (Lib.compareBytes a.data.toList b.data.toList)) ∧ w' = w := by
  go_enter Tryd.func22, Tryd.ntmps22
  go_wp2_with (go_at_call 29; refine (bytealg_any _ _ _).mono ?_; rintro e w' ⟨rfl, rfl⟩)
  go_ret
  exact ⟨rfl, rfl⟩

set_option maxRecDepth 100000 in
set_option maxHeartbeats 400000 in
theorem numbers_any (a b : ByteArray) (w : World) :
    Calls Tryd.prog 18 #[.string a, .string b] w fun e w' => e = .returned (.int .i64 (M.numC a.data.toList b.data.toList)) ∧ w' = w := by
  by_cases h : M.cmpI (M.strip a.data.toList).length (M.strip b.data.toList).length = 0
  · have h' : (M.cmpI (M.strip a.data.toList).length (M.strip b.data.toList).length != 0) = false := by simpa using h
    have H : Hid (M.cmpI (M.strip a.data.toList).length (M.strip b.data.toList).length = 0) := h
    clear h
    go_enter Tryd.func18, Tryd.ntmps18
    go_wp2_with (first | (go_at_call 21; refine (trimLeft_any _ _).mono ?_; rintro e w' ⟨rfl, rfl⟩) | (go_at_call 19; refine (cmpInt_any _ _ _).mono ?_; rintro e w' ⟨rfl, rfl⟩) | (go_at_call 22; refine (scompare_any _ _ _).mono ?_; rintro e w' ⟨rfl, rfl⟩))
    go_ret
    refine ⟨ret_int ?_, rfl⟩
    unfold M.numC
    rw [if_pos H.out]
  · have h' : (M.cmpI (M.strip a.data.toList).length (M.strip b.data.toList).length != 0) = true := by simpa using h
    have H : Hid (¬ M.cmpI (M.strip a.data.toList).length (M.strip b.data.toList).length = 0) := h
    clear h
    go_enter Tryd.func18, Tryd.ntmps18
    go_wp2_with (first | (go_at_call 21; refine (trimLeft_any _ _).mono ?_; rintro e w' ⟨rfl, rfl⟩) | (go_at_call 19; refine (cmpInt_any _ _ _).mono ?_; rintro e w' ⟨rfl, rfl⟩) | (go_at_call 22; refine (scompare_any _ _ _).mono ?_; rintro e w' ⟨rfl, rfl⟩))
    go_ret
    refine ⟨ret_int ?_, rfl⟩
    unfold M.numC
    rw [if_neg H.out]
end Go.Proofs.YtgnfknjopafngaaDoor
