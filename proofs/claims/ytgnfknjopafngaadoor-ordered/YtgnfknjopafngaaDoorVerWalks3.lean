/-
  THE WALKS, 3: CompareVersions, Compare.
-/
import Derived.Test.YtgnfknjopafngaaDoorVerWalks2
namespace Go.Proofs.YtgnfknjopafngaaDoor
open Go.RowKit

/- What the callees reckon, of strings: behind names of their own. -/
def noB (s : ByteArray) : Nat := M.lead M.isNo s.data.toList
def diB (s : ByteArray) : Nat := M.lead M.isD s.data.toList
def woB (a b : ByteArray) : Int := M.wordC a.data.toList b.data.toList
def nuB (a b : ByteArray) : Int := M.numC a.data.toList b.data.toList

theorem noB_le (x : ByteArray) : noB x ≤ x.size := by have := M.lead_le M.isNo x.data.toList; unfold noB; simpa using this
theorem diB_le (x : ByteArray) : diB x ≤ x.size := by have := M.lead_le M.isD x.data.toList; unfold diB; simpa using this
theorem leadN_c (s : ByteArray) (w : World) (hs : s.size ≤ maxLen) :
    Calls Tryd.prog 14 #[.string s, .func (.func 15) #[] #[]] w fun e w' => e = .returned (.int .i64 (noB s)) ∧ w' = w := leadNo_any s w hs
theorem leadD_c (s : ByteArray) (w : World) (hs : s.size ≤ maxLen) :
    Calls Tryd.prog 14 #[.string s, .func (.func 17) #[] #[]] w fun e w' => e = .returned (.int .i64 (diB s)) ∧ w' = w := leadD_any s w hs
theorem words_c (a b : ByteArray) (w : World) (ha : a.size ≤ maxLen) (hb : b.size ≤ maxLen) :
    Calls Tryd.prog 16 #[.string a, .string b] w fun e w' => e = .returned (.int .i64 (woB a b)) ∧ w' = w := words_any a b w ha hb
theorem numbers_c (a b : ByteArray) (w : World) :
    Calls Tryd.prog 18 #[.string a, .string b] w fun e w' => e = .returned (.int .i64 (nuB a b)) ∧ w' = w := numbers_any a b w

theorem rest_toList (x : ByteArray) (i p : Nat) : ((x.extract i x.size).extract p (x.size - i)).data.toList = (x.data.toList.drop i).drop p := by
  rw [Lib.extract_data, ext_from, List.take_of_length_le]
  simp; omega
theorem num_toList (x : ByteArray) (i p : Nat) : ((x.extract i x.size).extract 0 p).data.toList = (x.data.toList.drop i).take p := by
  rw [ext_upto, ext_from]
theorem diB_drop (x : ByteArray) (i : Nat) : diB (x.extract i x.size) = M.lead M.isD (x.data.toList.drop i) := by unfold diB; rw [ext_from]
theorem round_go (x y : ByteArray) (h : woB (x.extract 0 (noB x)) (y.extract 0 (noB y)) = 0)
    (k : nuB ((x.extract (noB x) x.size).extract 0 (diB (x.extract (noB x) x.size))) ((y.extract (noB y) y.size).extract 0 (diB (y.extract (noB y) y.size))) = 0) :
    M.verC x.data.toList y.data.toList = M.verC ((x.extract (noB x) x.size).extract (diB (x.extract (noB x) x.size)) (x.size - noB x)).data.toList ((y.extract (noB y) y.size).extract (diB (y.extract (noB y) y.size)) (y.size - noB y)).data.toList := by
  unfold woB at h
  unfold nuB at k
  rw [ext_upto, ext_upto] at h
  rw [num_toList, num_toList, diB_drop, diB_drop] at k
  rw [rest_toList, rest_toList, diB_drop, diB_drop, M.verC_round _ _ _ _ (rfl : noB x = _) (rfl : noB y = _), if_pos h, if_pos k]
theorem round_num (x y : ByteArray) (h : woB (x.extract 0 (noB x)) (y.extract 0 (noB y)) = 0)
    (k : ¬ nuB ((x.extract (noB x) x.size).extract 0 (diB (x.extract (noB x) x.size))) ((y.extract (noB y) y.size).extract 0 (diB (y.extract (noB y) y.size))) = 0) :
    M.verC x.data.toList y.data.toList = nuB ((x.extract (noB x) x.size).extract 0 (diB (x.extract (noB x) x.size))) ((y.extract (noB y) y.size).extract 0 (diB (y.extract (noB y) y.size))) := by
  unfold woB at h
  unfold nuB at k ⊢
  rw [ext_upto, ext_upto] at h
  rw [num_toList, num_toList, diB_drop, diB_drop] at k ⊢
  rw [M.verC_round _ _ _ _ (rfl : noB x = _) (rfl : noB y = _), if_pos h, if_neg k]
/-- A round takes something away. -/
theorem one_lt (x : ByteArray) (h : ¬ x.toList.isEmpty = true) : 0 < noB x + diB (x.extract (noB x) x.size) := by
  rw [diB_drop]
  rw [Lib.toList_data, List.isEmpty_iff] at h
  have := M.lead_two h
  show 0 < M.lead M.isNo x.data.toList + M.lead M.isD (x.data.toList.drop (M.lead M.isNo x.data.toList))
  omega
theorem two_lt (x y : ByteArray) (h : ¬ (x.toList.isEmpty = true ∧ y.toList.isEmpty = true)) : 0 < noB x + diB (x.extract (noB x) x.size) + (noB y + diB (y.extract (noB y) y.size)) := by
  by_cases hx : x.toList.isEmpty = true
  · have := one_lt y (fun hy => h ⟨hx, hy⟩); omega
  · have := one_lt x hx; omega

set_option maxRecDepth 100000 in
set_option maxHeartbeats 1000000 in
theorem compareV_any (a b : ByteArray) (w : World) (ha : a.size ≤ maxLen) (hb : b.size ≤ maxLen) :
    Calls Tryd.prog 12 #[.string a, .string b] w fun e w' => e = .returned (.int .i64 (M.verC a.data.toList b.data.toList)) ∧ ∃ n, w' = w.drewN n := by
  unfold maxLen at ha hb
  go_enter Tryd.func12, Tryd.ntmps12
  go_wp2
  go_loopw [0, 1, 5, 6, 7, 8] (fun u v _ _ _ _ wr => ∃ (x y : ByteArray) (n : Nat), u = .string x ∧ v = .string y ∧ wr = w.drewN n ∧ x.size ≤ a.size ∧ y.size ≤ b.size ∧ M.verC x.data.toList y.data.toList = M.verC a.data.toList b.data.toList) (fun u v _ _ _ _ _ => lenOf u + lenOf v)
  case atStart => exact ⟨a, b, 0, rfl, rfl, rfl, Nat.le_refl _, Nat.le_refl _, rfl⟩
  case round =>
    obtain ⟨x, y, n, rfl, rfl, rfl, hx, hy, hv⟩ := hrel
    have HV : Hid (M.verC x.data.toList y.data.toList = M.verC a.data.toList b.data.toList) := hv
    clear hv
    have hi := noB_le x
    have hj := noB_le y
    by_cases he : x.toList.isEmpty = true ∧ y.toList.isEmpty = true
    · obtain ⟨hxe, hye⟩ := he
      go_wp2
      go_ret
      exact ⟨ret_int (by rw [← HV.out]; rw [Lib.toList_data, List.isEmpty_iff] at hxe hye; rw [hxe, hye]; simp [M.verC, M.key_nil, M.lexC]), n, rfl⟩
    · have HE : Hid (¬ (x.toList.isEmpty = true ∧ y.toList.isEmpty = true)) := he
      have hor : x.toList.isEmpty = false ∨ (x.toList.isEmpty = true ∧ y.toList.isEmpty = false) := by
        by_cases h1 : x.toList.isEmpty = true
        · right; exact ⟨h1, by by_cases h2 : y.toList.isEmpty = true; exact absurd ⟨h1, h2⟩ he; simpa using h2⟩
        · left; simpa using h1
      clear he
      have h1 : (x.extract 0 (noB x)).size ≤ maxLen := by have := ext_size x 0 (noB x); unfold maxLen; omega
      have h2 : (y.extract 0 (noB y)).size ≤ maxLen := by have := ext_size y 0 (noB y); unfold maxLen; omega
      have cW := fun wx => words_c _ _ wx h1 h2
      clear h1 h2
      by_cases hw : woB (x.extract 0 (noB x)) (y.extract 0 (noB y)) = 0
      · have hw' : (woB (x.extract 0 (noB x)) (y.extract 0 (noB y)) != 0) = false := by simpa using hw
        have HC : Hid (woB (x.extract 0 (noB x)) (y.extract 0 (noB y)) = 0) := hw
        clear hw
        have hp : diB (x.extract (noB x) x.size) ≤ x.size - noB x := by have := diB_le (x.extract (noB x) x.size); simpa using this
        have hq : diB (y.extract (noB y) y.size) ≤ y.size - noB y := by have := diB_le (y.extract (noB y) y.size); simpa using this
        by_cases hn : nuB ((x.extract (noB x) x.size).extract 0 (diB (x.extract (noB x) x.size))) ((y.extract (noB y) y.size).extract 0 (diB (y.extract (noB y) y.size))) = 0
        · have hn' : (nuB ((x.extract (noB x) x.size).extract 0 (diB (x.extract (noB x) x.size))) ((y.extract (noB y) y.size).extract 0 (diB (y.extract (noB y) y.size))) != 0) = false := by simpa using hn
          have HN : Hid (nuB ((x.extract (noB x) x.size).extract 0 (diB (x.extract (noB x) x.size))) ((y.extract (noB y) y.size).extract 0 (diB (y.extract (noB y) y.size))) = 0) := hn
          clear hn
          rcases hor with hxe | ⟨hxe, hye⟩
          all_goals
            go_wp2_with (go_at_call 14; refine (leadN_c _ _ (by unfold maxLen; omega)).mono ?_; rintro e w' ⟨rfl, rfl⟩)
            go_quiet ((go_at_call 16; go_must (exact quiet_add (cW _))))
            go_wp2
            go_quiet (fail)
            go_wp2_with (go_at_call 14; refine (leadD_c _ _ (by unfold maxLen; simp; omega)).mono ?_; rintro e w' ⟨rfl, rfl⟩)
            go_quiet ((go_at_call 18; go_must (exact quiet_add (numbers_c _ _ _))))
            go_wp2
            go_quiet (fail)
            go_wp2
            go_roundw
            case rel =>
              refine ⟨_, _, _, rfl, rfl, drewN_add _ _ _, ?_, ?_, ?_⟩
              · have := ext_size (x.extract (noB x) x.size) (diB (x.extract (noB x) x.size)) (x.size - noB x); have := ext_size x (noB x) x.size; omega
              · have := ext_size (y.extract (noB y) y.size) (diB (y.extract (noB y) y.size)) (y.size - noB y); have := ext_size y (noB y) y.size; omega
              · rw [← HV.out, round_go x y HC.out HN.out]
            case measure =>
              have := two_lt x y HE.out
              simp [lenOf]
              omega
        · have hn' : (nuB ((x.extract (noB x) x.size).extract 0 (diB (x.extract (noB x) x.size))) ((y.extract (noB y) y.size).extract 0 (diB (y.extract (noB y) y.size))) != 0) = true := by simpa using hn
          have HN : Hid (¬ nuB ((x.extract (noB x) x.size).extract 0 (diB (x.extract (noB x) x.size))) ((y.extract (noB y) y.size).extract 0 (diB (y.extract (noB y) y.size))) = 0) := hn
          clear hn
          rcases hor with hxe | ⟨hxe, hye⟩
          all_goals
            go_wp2_with (go_at_call 14; refine (leadN_c _ _ (by unfold maxLen; omega)).mono ?_; rintro e w' ⟨rfl, rfl⟩)
            go_quiet ((go_at_call 16; go_must (exact quiet_add (cW _))))
            go_wp2
            go_quiet (fail)
            go_wp2_with (go_at_call 14; refine (leadD_c _ _ (by unfold maxLen; simp; omega)).mono ?_; rintro e w' ⟨rfl, rfl⟩)
            go_quiet ((go_at_call 18; go_must (exact quiet_add (numbers_c _ _ _))))
            go_wp2
            go_ret
            refine ⟨ret_int ?_, _, rfl⟩
            rw [← HV.out, round_num x y HC.out HN.out]
      · have hw' : (woB (x.extract 0 (noB x)) (y.extract 0 (noB y)) != 0) = true := by simpa using hw
        have HC : Hid (¬ woB (x.extract 0 (noB x)) (y.extract 0 (noB y)) = 0) := hw
        clear hw
        rcases hor with hxe | ⟨hxe, hye⟩
        all_goals
          go_wp2_with (go_at_call 14; refine (leadN_c _ _ (by unfold maxLen; omega)).mono ?_; rintro e w' ⟨rfl, rfl⟩)
          go_quiet ((go_at_call 16; go_must (exact quiet_add (cW _))))
          go_wp2
          go_ret
          refine ⟨ret_int ?_, _, rfl⟩
          have h := HC.out
          rw [← HV.out, M.verC_round _ _ _ _ rfl rfl, ← ext_upto, ← ext_upto]
          exact (if_neg h).symm
def verB (a b : ByteArray) : Int := M.verC a.data.toList b.data.toList
end Go.Proofs.YtgnfknjopafngaaDoor
