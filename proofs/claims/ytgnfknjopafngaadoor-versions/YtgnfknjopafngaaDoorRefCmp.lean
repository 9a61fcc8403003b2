/-
  THE WALKS OF THE DOCUMENT's ANSWER, 2: numbers, Compare; Versions.
-/
import Derived.Test.YtgnfknjopafngaaDoorRefWalks1
namespace Go.Proofs.YtgnfknjopafngaaDoor
open Go.RowKit

theorem nought_cat (x : ByteArray) : ((ByteArray.mk #[48]) ++ x).data.toList = 48 :: x.data.toList := by
  rw [ByteArray.data_append]; simp
theorem nought_size (x : ByteArray) : ((ByteArray.mk #[48]) ++ x).size = x.size + 1 := by
  rw [ByteArray.size_append]; exact Nat.add_comm _ _

theorem nu_of (a b x y : ByteArray) (da : M.Digits a.data.toList) (db : M.Digits b.data.toList) (hx : M.Digits x.data.toList ∧ M.num x.data.toList = M.num a.data.toList)
    (hy : M.Digits y.data.toList ∧ M.num y.data.toList = M.num b.data.toList) (h : x.size = y.size) : nuB a b = Lib.compareBytes x.data.toList y.data.toList := by
  unfold nuB
  rw [M.numC_eq da db, M.compareBytes_num hx.1 hy.1 (by simpa using h), hx.2, hy.2]

set_option maxRecDepth 100000 in
set_option maxHeartbeats 1000000 in
theorem refNumbers_any (a b : ByteArray) (w : World) (ha : a.size ≤ 8192) (hb : b.size ≤ 8192) (da : M.Digits a.data.toList) (db : M.Digits b.data.toList) :
    Calls Tryd.prog 11 #[.string a, .string b] w fun e w' => e = .returned (.int .i64 (nuB a b)) ∧ w' = w := by
  go_enter Tryd.func11, Tryd.ntmps11
  go_wp2
  go_loop [0] (fun u => ∃ x : ByteArray, u = .string x ∧ x.size ≤ 8192 ∧ Hid (M.Digits x.data.toList ∧ M.num x.data.toList = M.num a.data.toList)) (fun u => b.size - lenOf u)
  case atStart => exact ⟨a, rfl, ha, da, rfl⟩
  case round =>
    obtain ⟨x, rfl, hx, HX⟩ := hrel
    by_cases hlt : x.size < b.size
    · go_wp2
      go_round
      case rel =>
        refine ⟨_, rfl, by rw [nought_size]; omega, ?_, ?_⟩
        · rw [nought_cat]; exact M.nought_digits HX.out.1
        · rw [nought_cat, M.num_nought]; exact HX.out.2
      case measure => simp only [lenOf]; rw [nought_size]; omega
    · go_wp2
      go_loop [1] (fun u => ∃ y : ByteArray, u = .string y ∧ y.size ≤ x.size ∧ Hid (M.Digits y.data.toList ∧ M.num y.data.toList = M.num b.data.toList)) (fun u => x.size - lenOf u)
      case atStart => exact ⟨b, rfl, by omega, db, rfl⟩
      case round =>
        obtain ⟨y, rfl, hy, HY⟩ := hrel
        by_cases hlt2 : y.size < x.size
        · go_wp2
          go_round
          case rel =>
            refine ⟨_, rfl, by rw [nought_size]; omega, ?_, ?_⟩
            · rw [nought_cat]; exact M.nought_digits HY.out.1
            · rw [nought_cat, M.num_nought]; exact HY.out.2
          case measure => simp only [lenOf]; rw [nought_size]; omega
        · have HN : Hid (nuB a b = Lib.compareBytes x.data.toList y.data.toList) := nu_of a b x y da db HX.out HY.out (by omega)
          have hl : Op.bytesLess x.toList y.toList = decide (Lib.compareBytes x.data.toList y.data.toList < 0) := by rw [Lib.toList_data, Lib.toList_data]; exact M.less_iff _ _
          have hs : (x.toList == y.toList) = decide (Lib.compareBytes x.data.toList y.data.toList = 0) := by rw [Lib.toList_data, Lib.toList_data]; exact M.same_iff _ _
          have hbd : -1 ≤ Lib.compareBytes x.data.toList y.data.toList ∧ Lib.compareBytes x.data.toList y.data.toList ≤ 1 := by
            rw [← HN.out]; unfold nuB; rw [M.numC_eq da db]; exact M.cmpI_bd _ _
          obtain h | h | h : Lib.compareBytes x.data.toList y.data.toList = -1 ∨ Lib.compareBytes x.data.toList y.data.toList = 0 ∨ Lib.compareBytes x.data.toList y.data.toList = 1 := by omega
          · have hl' : Op.bytesLess x.toList y.toList = true := by rw [hl, h]; decide
            have HE : Hid (nuB a b = -1) := HN.out.trans h
            clear hl hs hbd h HN
            go_wp2
            go_ret
            exact ⟨ret_int HE.out.symm, rfl⟩
          · have hl' : Op.bytesLess x.toList y.toList = false := by rw [hl, h]; decide
            have hs' : (x.toList == y.toList) = true := by rw [hs, h]; decide
            have HE : Hid (nuB a b = 0) := HN.out.trans h
            clear hl hs hbd h HN
            go_wp2
            go_ret
            exact ⟨ret_int HE.out.symm, rfl⟩
          · have hl' : Op.bytesLess x.toList y.toList = false := by rw [hl, h]; decide
            have hs' : (x.toList == y.toList) = false := by rw [hs, h]; decide
            have HE : Hid (nuB a b = 1) := HN.out.trans h
            clear hl hs hbd h HN
            go_wp2
            go_ret
            exact ⟨ret_int HE.out.symm, rfl⟩

theorem words_x {x y : ByteArray} {k : Nat} (h : ∀ j, j < k → M.rkAt (x.data.toList.take (noB x)) j = M.rkAt (y.data.toList.take (noB y)) j)
    (hc : ¬ M.cmpI (M.rkAt (x.data.toList.take (noB x)) k) (M.rkAt (y.data.toList.take (noB y)) k) = 0) :
    verB x y = M.cmpI (M.rkAt (x.data.toList.take (noB x)) k) (M.rkAt (y.data.toList.take (noB y)) k) := by
  unfold verB
  have hw := M.wordC_diff h hc
  rw [M.verC_round _ _ _ _ (rfl : noB x = _) (rfl : noB y = _), if_neg (by rw [hw]; exact hc), hw]
theorem at_in (x : ByteArray) (k : Nat) (h : k < noB x) (hk : k < x.size) : M.rkAt (x.data.toList.take (noB x)) k = M.rk x[k].toNat :=
  M.rkAt_in h (by simpa using hk)
theorem digits_of (x : ByteArray) : M.Digits ((x.extract (noB x) x.size).extract 0 (diB (x.extract (noB x) x.size))).data.toList := by
  rw [ext_upto]; exact M.lead_digits _

set_option maxRecDepth 100000 in
set_option maxHeartbeats 2000000 in
theorem refCompare_any (a b : ByteArray) (w : World) (ha : a.size ≤ 8192) (hb : b.size ≤ 8192) :
    Calls Tryd.prog 6 #[.string a, .string b] w fun e w' => e = .returned (.int .i64 (verB a b)) ∧ Below w.heap.size w w' := by
  go_enter Tryd.func6, Tryd.ntmps6
  go_wp2
  go_loopw [0, 1, 5, 6, 7, 8, 9, 10] (fun u v _ _ _ _ _ _ wr => ∃ (x y : ByteArray), u = .string x ∧ v = .string y ∧ Below w.heap.size w wr ∧ x.size ≤ a.size ∧ y.size ≤ b.size ∧ Hid (verB x y = verB a b)) (fun u v _ _ _ _ _ _ _ => lenOf u + lenOf v)
  case atStart => exact ⟨a, b, rfl, rfl, Below.refl _ _, Nat.le_refl _, Nat.le_refl _, rfl⟩
  case round =>
    obtain ⟨x, y, rfl, rfl, hB, hx, hy, HV⟩ := hrel
    have hi := noB_le x
    have hj := noB_le y
    by_cases he : x.size = 0 ∧ y.size = 0
    · obtain ⟨hxe, hye⟩ := he
      have HX : Hid (x.size = 0) := hxe
      have HY : Hid (y.size = 0) := hye
      have h1 : ¬ (0 < x.size) := by omega
      have h2 : ¬ (0 < y.size) := by omega
      clear hxe hye
      go_wp2
      go_ret
      refine ⟨ret_int ?_, hB⟩
      rw [← HV.out]
      unfold verB
      have e1 : x.data.toList = [] := List.length_eq_zero_iff.mp (by simpa using HX.out)
      have e2 : y.data.toList = [] := List.length_eq_zero_iff.mp (by simpa using HY.out)
      rw [e1, e2]; exact (M.verC_self _).symm
    · have HE : Hid (¬ (x.toList.isEmpty = true ∧ y.toList.isEmpty = true)) := by
        rw [Lib.toList_data, Lib.toList_data, List.isEmpty_iff, List.isEmpty_iff]
        intro h
        exact he ⟨by simpa using congrArg List.length h.1, by simpa using congrArg List.length h.2⟩
      have hor : 0 < x.size ∨ (¬ 0 < x.size ∧ 0 < y.size) := by omega
      clear he
      rcases hor with hxe | ⟨hxe, hye⟩
      all_goals
        go_wp2_with (go_at_call 8; refine (partN_any _ _ (by unfold maxLen; omega)).mono ?_; rintro e w' ⟨rfl, rfl⟩)
        go_loopw [7, 8, 9] (fun i _ _ wq => ∃ k : Nat, i = .int .i64 k ∧ k ≤ noB x + noB y ∧ Below w.heap.size w wq ∧ Hid (∀ j, j < k → M.rkAt (x.data.toList.take (noB x)) j = M.rkAt (y.data.toList.take (noB y)) j)) (fun i _ _ _ => noB x + noB y - (intOf i).toNat)
        case atStart => exact ⟨0, rfl, Nat.zero_le _, hB, fun j h => by omega⟩
        case round =>
          obtain ⟨k, rfl, hk1, hB2, HJ⟩ := hrel
          by_cases hn : k < noB x
          · have hkx : k < x.size := by omega
            have bx := M.rkR_bd x[k]
            have HAX : Hid (M.rkAt (x.data.toList.take (noB x)) k = M.rk x[k].toNat) := at_in x k hn hkx
            by_cases hm : k < noB y
            · have hky : k < y.size := by omega
              have bY := M.rkR_bd y[k]
              have HAY : Hid (M.rkAt (y.data.toList.take (noB y)) k = M.rk y[k].toNat) := at_in y k hm hky
              by_cases hq : M.rkR x[k].toNat = M.rkR y[k].toNat
              · have hq' : (M.rkR x[k].toNat != M.rkR y[k].toNat) = false := by simpa using hq
                have HQ : Hid (M.rkR x[k].toNat = M.rkR y[k].toNat) := hq
                clear hq
                go_wp2_with (go_at_call 9; refine (letter_any _ _).mono ?_; rintro e w' ⟨rfl, hb'⟩)
                go_roundw
                case rel =>
                  refine ⟨k + 1, by go_num, by omega, bt (bt hB2 ‹_›) ‹_›, fun j hj => ?_⟩
                  by_cases hjk : j < k
                  · exact HJ.out j hjk
                  · obtain rfl : j = k := by omega
                    rw [HAX.out, HAY.out]
                    exact M.cmpI_zero.mp ((M.rk_rkR _ _).symm.trans (M.cmpI_zero.mpr HQ.out))
                case measure => simp [intOf]; omega
              · have hq' : (M.rkR x[k].toNat != M.rkR y[k].toNat) = true := by simpa using hq
                have HQ : Hid (¬ M.rkR x[k].toNat = M.rkR y[k].toNat) := hq
                clear hq
                go_wp2_with (first | (go_at_call 9; refine (letter_any _ _).mono ?_; rintro e w' ⟨rfl, hb'⟩) | (go_at_call 10; refine (sign_any _ _).mono ?_; rintro e w' ⟨rfl, rfl⟩))
                go_ret
                refine ⟨ret_int ?_, bt (bt hB2 ‹_›) ‹_›⟩
                have e : M.cmpI (M.rkAt (x.data.toList.take (noB x)) k) (M.rkAt (y.data.toList.take (noB y)) k) = M.cmpI (M.rkR x[k].toNat) (M.rkR y[k].toNat) := by rw [HAX.out, HAY.out, M.rk_rkR]
                rw [← HV.out, words_x HJ.out (by rw [e]; exact fun h => HQ.out (M.cmpI_zero.mp h)), e, M.cmpI_sub]
            · have HAY : Hid (M.rkAt (y.data.toList.take (noB y)) k = 0) := M.rkAt_out (by omega)
              have hq' : (M.rkR x[k].toNat != 0) = true := by have := bx.2.2; simpa using this
              have HQ : Hid (¬ M.rkR x[k].toNat = 0) := bx.2.2
              go_wp2_with (first | (go_at_call 9; refine (letter_any _ _).mono ?_; rintro e w' ⟨rfl, hb'⟩) | (go_at_call 10; refine (sign_any _ _).mono ?_; rintro e w' ⟨rfl, rfl⟩))
              go_ret
              refine ⟨ret_int ?_, bt hB2 ‹_›⟩
              have e : M.cmpI (M.rkAt (x.data.toList.take (noB x)) k) (M.rkAt (y.data.toList.take (noB y)) k) = M.cmpI (M.rkR x[k].toNat) 0 := by rw [HAX.out, HAY.out, M.rk_rkR0]
              rw [← HV.out, words_x HJ.out (by rw [e]; exact fun h => HQ.out (M.cmpI_zero.mp h)), e]
          · have HAX : Hid (M.rkAt (x.data.toList.take (noB x)) k = 0) := M.rkAt_out (by omega)
            by_cases hm : k < noB y
            · have hky : k < y.size := by omega
              have bY := M.rkR_bd y[k]
              have HAY : Hid (M.rkAt (y.data.toList.take (noB y)) k = M.rk y[k].toNat) := at_in y k hm hky
              have hq' : (0 != M.rkR y[k].toNat) = true := by have := bY.2.2; simpa using fun h => this h.symm
              have HQ : Hid (¬ M.rkR y[k].toNat = 0) := bY.2.2
              go_wp2_with (first | (go_at_call 9; refine (letter_any _ _).mono ?_; rintro e w' ⟨rfl, hb'⟩) | (go_at_call 10; refine (sign_any _ _).mono ?_; rintro e w' ⟨rfl, rfl⟩))
              go_ret
              refine ⟨ret_int ?_, bt hB2 ‹_›⟩
              have e : M.cmpI (M.rkAt (x.data.toList.take (noB x)) k) (M.rkAt (y.data.toList.take (noB y)) k) = M.cmpI 0 (M.rkR y[k].toNat) := by
                rw [HAX.out, HAY.out, M.cmpI_neg, ← M.rk_rkR0, ← M.cmpI_neg]
              rw [← HV.out, words_x HJ.out (by rw [e]; exact fun h => HQ.out (M.cmpI_zero.mp h).symm), e]
              refine Eq.trans ?_ (M.cmpI_sub 0 (M.rkR y[k].toNat))
              rw [Int.zero_sub]
            · have HW : Hid (woB (x.extract 0 (noB x)) (y.extract 0 (noB y)) = 0) := by
                unfold woB
                rw [ext_upto, ext_upto]
                exact M.wordC_same HJ.out (by simp; omega) (by simp; omega)
              have hp : diB (x.extract (noB x) x.size) ≤ x.size - noB x := by have := diB_le (x.extract (noB x) x.size); simpa using this
              have hq : diB (y.extract (noB y) y.size) ≤ y.size - noB y := by have := diB_le (y.extract (noB y) y.size); simpa using this
              have cN : ∀ wx, Calls Tryd.prog 11 #[.string ((x.extract (noB x) x.size).extract 0 (diB (x.extract (noB x) x.size))), .string ((y.extract (noB y) y.size).extract 0 (diB (y.extract (noB y) y.size)))] wx fun e w' => e = .returned (.int .i64 (nuB ((x.extract (noB x) x.size).extract 0 (diB (x.extract (noB x) x.size))) ((y.extract (noB y) y.size).extract 0 (diB (y.extract (noB y) y.size))))) ∧ w' = wx := fun wx =>
                refNumbers_any _ _ wx (by have := ext_size (x.extract (noB x) x.size) 0 (diB (x.extract (noB x) x.size)); have := ext_size x (noB x) x.size; omega) (by have := ext_size (y.extract (noB y) y.size) 0 (diB (y.extract (noB y) y.size)); have := ext_size y (noB y) y.size; omega) (digits_of x) (digits_of y)
              by_cases hn0 : nuB ((x.extract (noB x) x.size).extract 0 (diB (x.extract (noB x) x.size))) ((y.extract (noB y) y.size).extract 0 (diB (y.extract (noB y) y.size))) = 0
              · have hn' : (nuB ((x.extract (noB x) x.size).extract 0 (diB (x.extract (noB x) x.size))) ((y.extract (noB y) y.size).extract 0 (diB (y.extract (noB y) y.size))) != 0) = false := by simpa using hn0
                have HN : Hid (nuB ((x.extract (noB x) x.size).extract 0 (diB (x.extract (noB x) x.size))) ((y.extract (noB y) y.size).extract 0 (diB (y.extract (noB y) y.size))) = 0) := hn0
                clear hn0
                go_wp2_with (go_at_call 8; refine (partD_any _ _ (by unfold maxLen; simp; omega)).mono ?_; rintro e w' ⟨rfl, rfl⟩)
                go_quiet ((go_at_call 11; go_must (exact Calls.quiet_of_same (cN _))))
                go_wp2
                go_roundw
                case rel =>
                  refine ⟨_, _, rfl, rfl, bt_n hB2 _, ?_, ?_, ?_⟩
                  · have := ext_size (x.extract (noB x) x.size) (diB (x.extract (noB x) x.size)) (x.size - noB x); have := ext_size x (noB x) x.size; omega
                  · have := ext_size (y.extract (noB y) y.size) (diB (y.extract (noB y) y.size)) (y.size - noB y); have := ext_size y (noB y) y.size; omega
                  · show verB _ _ = verB a b
                    rw [← HV.out]; exact (round_go x y HW.out HN.out).symm
                case measure =>
                  have := two_lt x y HE.out
                  simp [lenOf]
                  omega
              · have hn' : (nuB ((x.extract (noB x) x.size).extract 0 (diB (x.extract (noB x) x.size))) ((y.extract (noB y) y.size).extract 0 (diB (y.extract (noB y) y.size))) != 0) = true := by simpa using hn0
                have HN : Hid (¬ nuB ((x.extract (noB x) x.size).extract 0 (diB (x.extract (noB x) x.size))) ((y.extract (noB y) y.size).extract 0 (diB (y.extract (noB y) y.size))) = 0) := hn0
                clear hn0
                go_wp2_with (go_at_call 8; refine (partD_any _ _ (by unfold maxLen; simp; omega)).mono ?_; rintro e w' ⟨rfl, rfl⟩)
                go_quiet ((go_at_call 11; go_must (exact Calls.quiet_of_same (cN _))))
                go_wp2
                go_ret
                refine ⟨ret_int ?_, bt_n hB2 _⟩
                rw [← HV.out]; exact (round_num x y HW.out HN.out).symm
end Go.Proofs.YtgnfknjopafngaaDoor
