import Derived.Test.YtgnfknjopafngaaGreatDoorKsb
import Derived.Test.YtgnfknjopafngaaGreatDoorKsa
namespace Go.Proofs.YtgnfknjopafngaaGreatDoor
open Go.RowKit
set_option maxHeartbeats 400000 in
theorem isDigit_any (c : Int) (w : World) :
    Calls Tryz.prog 211 #[.int .u8 c] w fun e w' => e = .returned (.bool (M.isD c)) ∧ w' = w := by
  by_cases h1 : 48 ≤ c
  · by_cases h2 : c ≤ 57
    · go_enter Tryz.func211, Tryz.ntmps211
      go_wp2
      go_ret
      exact ⟨ret_bool (M.isD_t h1 h2).symm, rfl⟩
    · go_enter Tryz.func211, Tryz.ntmps211
      go_wp2
      go_ret
      exact ⟨ret_bool (M.isD_f2 h2).symm, rfl⟩
  · go_enter Tryz.func211, Tryz.ntmps211
    go_wp2
    go_ret
    exact ⟨ret_bool (M.isD_f1 h1).symm, rfl⟩
set_option maxHeartbeats 400000 in
theorem isSmall_any (c : Int) (w : World) :
    Calls Tryz.prog 210 #[.int .u8 c] w fun e w' => e = .returned (.bool (M.isSm c)) ∧ w' = w := by
  by_cases h1 : 97 ≤ c
  · by_cases h2 : c ≤ 122
    · go_enter Tryz.func210, Tryz.ntmps210
      go_wp2
      go_ret
      exact ⟨ret_bool (by unfold M.isSm; simp; omega), rfl⟩
    · go_enter Tryz.func210, Tryz.ntmps210
      go_wp2
      go_ret
      exact ⟨ret_bool (by unfold M.isSm; simp; omega), rfl⟩
  · go_enter Tryz.func210, Tryz.ntmps210
    go_wp2
    go_ret
    exact ⟨ret_bool (by unfold M.isSm; simp; omega), rfl⟩
set_option maxHeartbeats 400000 in
theorem isLetter_any (c : Int) (w : World) :
    Calls Tryz.prog 213 #[.int .u8 c] w fun e w' => e = .returned (.bool (M.isLt c)) ∧ w' = w := by
  by_cases h0 : M.isSm c = true
  · go_enter Tryz.func213, Tryz.ntmps213
    go_wp2_with (go_at_call 210; refine (isSmall_any _ _).mono ?_; rintro e w' ⟨rfl, rfl⟩)
    go_ret
    exact ⟨ret_bool (by unfold M.isSm at h0; unfold M.isLt; simp at h0 ⊢; omega), rfl⟩
  · have h0' : M.isSm c = false := by simpa using h0
    have hn : ¬ (97 ≤ c ∧ c ≤ 122) := by unfold M.isSm at h0; simpa using h0
    have HN : Hid (¬ (97 ≤ c ∧ c ≤ 122)) := hn
    clear hn h0
    by_cases h1 : 65 ≤ c
    · by_cases h2 : c ≤ 90
      · go_enter Tryz.func213, Tryz.ntmps213
        go_wp2_with (go_at_call 210; refine (isSmall_any _ _).mono ?_; rintro e w' ⟨rfl, rfl⟩)
        go_ret
        exact ⟨ret_bool (by have := HN.out; unfold M.isLt; simp; omega), rfl⟩
      · go_enter Tryz.func213, Tryz.ntmps213
        go_wp2_with (go_at_call 210; refine (isSmall_any _ _).mono ?_; rintro e w' ⟨rfl, rfl⟩)
        go_ret
        exact ⟨ret_bool (by have := HN.out; unfold M.isLt; rw [decide_eq_decide]; omega), rfl⟩
    · go_enter Tryz.func213, Tryz.ntmps213
      go_wp2_with (go_at_call 210; refine (isSmall_any _ _).mono ?_; rintro e w' ⟨rfl, rfl⟩)
      go_ret
      exact ⟨ret_bool (by have := HN.out; unfold M.isLt; exact (decide_eq_false (by omega)).symm), rfl⟩
set_option maxHeartbeats 400000 in
theorem lead_any (f : FuncId) (p : Int → Bool) (he : ∀ args w, (callFunc f args).run Tryz.prog w = .ok (.enter f args) w)
    (hk : ∀ c w, Calls Tryz.prog f #[.int .u8 c] w fun e w' => e = .returned (.bool (p c)) ∧ w' = w) (s : ByteArray) (w : World) (hs : s.size ≤ maxLen) :
    Calls Tryz.prog 252 #[.string s, .func (.func f) #[] #[]] w fun e w' => e = .returned (.int .i64 (M.lead p s.data.toList)) ∧ w' = w := by
  unfold maxLen at hs
  go_enter Tryz.func252, Tryz.ntmps252
  go_wp2
  go_loop [5] (fun i => ∃ k : Nat, k ≤ s.size ∧ i = .int .i64 k ∧ ∀ j (h : j < s.data.toList.length), j < k → p (s.data.toList[j]).toNat = true) (fun i => s.size - (intOf i).toNat)
  case atStart => exact ⟨0, Nat.zero_le _, rfl, fun j _ h => by omega⟩
  case round =>
    obtain ⟨k, hk1, rfl, ha⟩ := hrel
    have HA : Hid (∀ j (h : j < s.data.toList.length), j < k → p (s.data.toList[j]).toNat = true) := ha
    clear ha
    by_cases hlt : k < s.size
    · by_cases hp : p s[k].toNat = true
      · go_wp2_with (go_at_fn f; refine (hk _ _).mono ?_; rintro e w' ⟨rfl, rfl⟩)
        go_round
        case rel =>
          refine ⟨k + 1, by omega, by go_num, fun j hj hjk => ?_⟩
          by_cases hjk' : j < k
          · exact HA.out j hj hjk'
          · obtain rfl : j = k := by omega
            exact hp
        case measure => simp [intOf]; omega
      · have hp' : p s[k].toNat = false := by simpa using hp
        have HP : Hid (p s[k].toNat = false) := hp'
        clear hp
        go_wp2_with (go_at_fn f; refine (hk _ _).mono ?_; rintro e w' ⟨rfl, rfl⟩)
        go_ret
        refine ⟨ret_int ?_, rfl⟩
        rw [M.lead_eq HA.out (by simpa using hk1) (fun h => HP.out)]
    · go_wp2
      go_ret
      refine ⟨ret_int ?_, rfl⟩
      rw [M.lead_eq HA.out (by simpa using hk1) (fun h => by simp at h; omega)]
end Go.Proofs.YtgnfknjopafngaaGreatDoor
namespace Go.Proofs.YtgnfknjopafngaaGreatDoor
open Go.RowKit
def Thrown (e : Ending) : Prop := e = .panicked [{ v := .iface 115 (.int .i64 1), recovered := false }]
theorem must_ok (w : World) : Calls Tryz.prog 83 #[.bool true] w fun e w' => e = .returned (.tuple #[]) ∧ w' = w := by
  go_enter Tryz.func83, Tryz.ntmps83
  go_wp2
  exact ⟨rfl, .tuple #[], by simp [results, go_sem, Tryz.results83], rfl, rfl⟩
theorem must_no (w : World) : Calls Tryz.prog 83 #[.bool false] w fun e w' => Thrown e ∧ w' = w := by
  go_enter Tryz.func83, Tryz.ntmps83
  go_wp2
  exact ⟨rfl, rfl, rfl⟩
namespace M
theorem lead_all (p : Int → Bool) : ∀ (l : List UInt8), lead p l = l.length ↔ l.all (fun b => p b.toNat) = true
  | [] => by simp [lead]
  | b :: l => by
    have ih := lead_all p l
    rw [lead_cons]
    by_cases h : p b.toNat = true
    · rw [if_pos h]; simp [h] at ih ⊢; exact ih
    · rw [if_neg h]; simp [h]
theorem made_f1 (p : Int → Bool) (m : Nat) (l : List UInt8) (h : l.length = 0) : made p 1 m l = false := by unfold made; simp [h]
theorem made_f2 (p : Int → Bool) (m : Nat) (l : List UInt8) (h : ¬ l.length ≤ m) : made p 1 m l = false := by unfold made; simp [h]
theorem made_is (p : Int → Bool) (m : Nat) (l : List UInt8) (h0 : l.length ≠ 0) (h : l.length ≤ m) : made p 1 m l = decide (lead p l = l.length) := by
  unfold made
  rw [decide_eq_true (show 1 ≤ l.length by omega), decide_eq_true h]
  rw [Bool.and_true, Bool.and_true, Bool.eq_iff_iff, decide_eq_true_iff, lead_all]
end M
def madeK (p : Int → Bool) (m : Nat) (s : ByteArray) : Bool := M.made p 1 m s.data.toList
set_option maxRecDepth 100000 in
set_option maxHeartbeats 1000000 in
theorem isMadeOf_any (f : FuncId) (p : Int → Bool) (he : ∀ args w, (callFunc f args).run Tryz.prog w = .ok (.enter f args) w)
    (hk : ∀ c w, Calls Tryz.prog f #[.int .u8 c] w fun e w' => e = .returned (.bool (p c)) ∧ w' = w) (s : ByteArray) (m : Nat) (w : World) (hs : s.size ≤ 1000000) :
    Calls Tryz.prog 208 #[.string s, .int .i64 m, .func (.func f) #[] #[]] w fun e w' => e = .returned (.bool (madeK p m s)) ∧ w' = w := by
  have hle := M.lead_le p s.data.toList
  rw [Array.length_toList, ByteArray.size_data] at hle
  have HL0 : s.data.toList.length = s.size := by simp
  obtain ⟨n, hn⟩ : ∃ n, n = M.lead p s.data.toList := ⟨_, rfl⟩
  have cL := fun w => lead_any f p he hk s w (by unfold maxLen; omega)
  rw [← hn] at cL hle
  by_cases h0 : s.toList.isEmpty = true
  · have HB : Hid (madeK p m s = false) := M.made_f1 _ _ _ (by rw [Lib.toList_data, List.isEmpty_iff] at h0; rw [h0]; rfl)
    clear hn HL0
    go_enter Tryz.func208, Tryz.ntmps208
    go_wp2_with fail
    go_ret
    exact ⟨ret_bool HB.out.symm, rfl⟩
  · have h0' : s.toList.isEmpty = false := by simpa using h0
    have hl0 : s.size ≠ 0 := by intro e; apply h0; rw [Lib.toList_data, List.isEmpty_iff_length_eq_zero]; simpa using e
    by_cases h1 : s.size ≤ m
    · have h1' : (s.size : Int) ≤ m := by omega
      have HB : Hid (madeK p m s = decide ((n : Int) = s.size)) := by
        show _ = _
        unfold madeK
        rw [M.made_is _ _ _ (by rw [HL0]; exact hl0) (by rw [HL0]; exact h1), ← hn, HL0]
        rw [decide_eq_decide]; omega
      clear hn HL0 h0
      by_cases h2 : (n : Int) = s.size
      · have h2' : ((n : Int) == s.size) = true := by simpa using h2
        have HB2 : Hid (madeK p m s = true) := by show _ = _; rw [HB.out]; simpa using h2
        clear h2
        go_enter Tryz.func208, Tryz.ntmps208
        go_wp2_with (go_at_call 252; refine (cL _).mono ?_; rintro e w' ⟨rfl, rfl⟩)
        go_ret
        exact ⟨ret_bool HB2.out.symm, rfl⟩
      · have h2' : ((n : Int) == s.size) = false := by simpa using h2
        have HB2 : Hid (madeK p m s = false) := by show _ = _; rw [HB.out]; simpa using h2
        clear h2
        go_enter Tryz.func208, Tryz.ntmps208
        go_wp2_with (go_at_call 252; refine (cL _).mono ?_; rintro e w' ⟨rfl, rfl⟩)
        go_ret
        exact ⟨ret_bool HB2.out.symm, rfl⟩
    · have h1' : ¬ (s.size : Int) ≤ m := by omega
      have HB : Hid (madeK p m s = false) := M.made_f2 _ _ _ (by rw [HL0]; exact h1)
      clear hn HL0 h0
      go_enter Tryz.func208, Tryz.ntmps208
      go_wp2_with fail
      go_ret
      exact ⟨ret_bool HB.out.symm, rfl⟩
end Go.Proofs.YtgnfknjopafngaaGreatDoor
namespace Go.Proofs.YtgnfknjopafngaaGreatDoor
open Go.RowKit
set_option maxHeartbeats 400000 in
theorem nameK_any (c : Int) (w : World) :
    Calls Tryz.prog 209 #[.int .u8 c] w fun e w' => e = .returned (.bool (M.nameP c)) ∧ w' = w := by
  by_cases h1 : M.isSm c = true
  · have HE : Hid (M.nameP c = true) := by show _ = _; unfold M.isSm at h1; unfold M.nameP; simp at h1 ⊢; omega
    go_enter Tryz.func209, Tryz.ntmps209
    go_wp2_with (first | (go_at_call 210; refine (isSmall_any _ _).mono ?_; rintro e w' ⟨rfl, rfl⟩) | (go_at_call 211; refine (isDigit_any _ _).mono ?_; rintro e w' ⟨rfl, rfl⟩))
    go_ret
    exact ⟨ret_bool HE.out.symm, rfl⟩
  · have h1' : M.isSm c = false := by simpa using h1
    by_cases h2 : M.isD c = true
    · have HE : Hid (M.nameP c = true) := by show _ = _; unfold M.isD at h2; unfold M.nameP; simp at h2 ⊢; omega
      clear h1
      go_enter Tryz.func209, Tryz.ntmps209
      go_wp2_with (first | (go_at_call 210; refine (isSmall_any _ _).mono ?_; rintro e w' ⟨rfl, rfl⟩) | (go_at_call 211; refine (isDigit_any _ _).mono ?_; rintro e w' ⟨rfl, rfl⟩))
      go_ret
      exact ⟨ret_bool HE.out.symm, rfl⟩
    · have h2' : M.isD c = false := by simpa using h2
      have HE : Hid (M.nameP c = (c == 45)) := by
        show _ = _
        unfold M.isSm at h1; unfold M.isD at h2; unfold M.nameP
        simp only [decide_eq_true_eq] at h1 h2
        rw [Bool.eq_iff_iff, decide_eq_true_eq, beq_iff_eq]
        omega
      clear h1 h2
      go_enter Tryz.func209, Tryz.ntmps209
      go_wp2_with (first | (go_at_call 210; refine (isSmall_any _ _).mono ?_; rintro e w' ⟨rfl, rfl⟩) | (go_at_call 211; refine (isDigit_any _ _).mono ?_; rintro e w' ⟨rfl, rfl⟩))
      go_ret
      exact ⟨ret_bool HE.out.symm, rfl⟩
def Gives (b : Bool) (v : Value) (e : Ending) : Prop := if b = true then e = .returned v else Thrown e
theorem gives_t {b : Bool} {v : Value} {e : Ending} (hb : b = true) (h : e = .returned v) : Gives b v e := by unfold Gives; rw [if_pos hb]; exact h
theorem gives_f {b : Bool} {v : Value} {e : Ending} (hb : b = false) (h : Thrown e) : Gives b v e := by unfold Gives; rw [if_neg (by rw [hb]; decide)]; exact h
def isNameK (s : ByteArray) : Bool := M.isNameS s.data.toList
def isVerK (s : ByteArray) : Bool := M.isVerS s.data.toList
theorem head_get (p : Int → Bool) (s : ByteArray) (h : 0 < s.size) : M.headP p s.data.toList = p s[0].toNat := by
  cases s with
  | mk a =>
    cases a with
    | mk l =>
      cases l with
      | nil => exact absurd h (by decide)
      | cons b l => rfl
theorem made_pos {p : Int → Bool} {m : Nat} {s : ByteArray} (h : madeK p m s = true) : 0 < s.size := by
  unfold madeK M.made at h
  simp only [Bool.and_eq_true, decide_eq_true_eq, Array.length_toList, ByteArray.size_data] at h
  omega
theorem isNameK_is (s : ByteArray) : isNameK s = (madeK M.nameP 12 s && M.headP M.isSm s.data.toList) := rfl
theorem isVerK_is (s : ByteArray) : isVerK s = (madeK M.verP 16 s && M.headP M.isD s.data.toList) := rfl
set_option maxRecDepth 100000 in
set_option maxHeartbeats 1000000 in
theorem readName_any (s : ByteArray) (w : World) (hs : s.size ≤ 1000000) :
    Calls Tryz.prog 170 #[.string s] w fun e w' => Gives (isNameK s) (.string s) e ∧ w' = w := by
  have cM := fun w => isMadeOf_any 209 M.nameP (enters_of Tryz.func209 (by kernel_rfl) rfl) nameK_any s 12 w hs
  by_cases hm : madeK M.nameP 12 s = true
  · have h0 := made_pos hm
    have cY := must_ok
    have cN := must_no
    have hh := head_get M.isSm s h0
    by_cases hd : M.isSm s[0].toNat = true
    · have HE : Hid (isNameK s = true) := by show _ = _; rw [isNameK_is, hm, hh, hd]; rfl
      clear hh cN
      go_enter Tryz.func170, Tryz.ntmps170
      go_wp2_with (first | (go_at_call 208; refine (cM _).mono ?_; rintro e w' ⟨rfl, rfl⟩) | (go_at_call 83; refine (cY _).mono ?_; rintro e w' ⟨rfl, rfl⟩) | (go_at_call 210; refine (isSmall_any _ _).mono ?_; rintro e w' ⟨rfl, rfl⟩))
      go_ret
      exact ⟨gives_t HE.out rfl, rfl⟩
    · have hd' : M.isSm s[0].toNat = false := by simpa using hd
      have HE : Hid (isNameK s = false) := by show _ = _; rw [isNameK_is, hm, hh, hd']; rfl
      clear hh hd
      go_enter Tryz.func170, Tryz.ntmps170
      go_wp2_with (first | (go_at_call 208; refine (cM _).mono ?_; rintro e w' ⟨rfl, rfl⟩) | (go_at_call 83; refine (cY _).mono ?_; rintro e w' ⟨rfl, rfl⟩) | (go_at_call 83; refine (cN _).mono ?_; rintro e w' ⟨rfl, rfl⟩) | (go_at_call 210; refine (isSmall_any _ _).mono ?_; rintro e w' ⟨rfl, rfl⟩))
      exact ⟨rfl, gives_f HE.out rfl, rfl⟩
  · have hm' : madeK M.nameP 12 s = false := by simpa using hm
    have HE : Hid (isNameK s = false) := by show _ = _; rw [isNameK_is, hm']; rfl
    have cN := must_no
    clear hm
    go_enter Tryz.func170, Tryz.ntmps170
    go_wp2_with (first | (go_at_call 208; refine (cM _).mono ?_; rintro e w' ⟨rfl, rfl⟩) | (go_at_call 83; refine (cN _).mono ?_; rintro e w' ⟨rfl, rfl⟩))
    exact ⟨rfl, gives_f HE.out rfl, rfl⟩
end Go.Proofs.YtgnfknjopafngaaGreatDoor
namespace Go.Proofs.YtgnfknjopafngaaGreatDoor
open Go.RowKit
def markP (c : Int) : Bool := decide (c = 46 ∨ c = 43 ∨ c = 45 ∨ c = 126)
set_option maxHeartbeats 400000 in
theorem mark_any (c : Int) (w : World) :
    Calls Tryz.prog 214 #[.int .u8 c] w fun e w' => e = .returned (.bool (markP c)) ∧ w' = w := by
  have HE : Hid (markP c = (c == 46 || c == 43 || c == 45 || c == 126)) := by
    show _ = _
    unfold markP
    rw [Bool.eq_iff_iff]
    simp [or_assoc]
  by_cases h1 : (c == 46) = true
  · have HE2 : Hid (markP c = true) := by show _ = _; rw [HE.out, h1]; rfl
    go_enter Tryz.func214, Tryz.ntmps214
    go_wp2
    go_ret
    exact ⟨ret_bool HE2.out.symm, rfl⟩
  · replace h1 : (c == 46) = false := by simpa using h1
    by_cases h2 : (c == 43) = true
    · have HE2 : Hid (markP c = true) := by show _ = _; rw [HE.out, h1, h2]; rfl
      go_enter Tryz.func214, Tryz.ntmps214
      go_wp2
      go_ret
      exact ⟨ret_bool HE2.out.symm, rfl⟩
    · replace h2 : (c == 43) = false := by simpa using h2
      by_cases h3 : (c == 45) = true
      · have HE2 : Hid (markP c = true) := by show _ = _; rw [HE.out, h1, h2, h3]; rfl
        go_enter Tryz.func214, Tryz.ntmps214
        go_wp2
        go_ret
        exact ⟨ret_bool HE2.out.symm, rfl⟩
      · replace h3 : (c == 45) = false := by simpa using h3
        have HE2 : Hid (markP c = (c == 126)) := by show _ = _; rw [HE.out, h1, h2, h3]; rfl
        go_enter Tryz.func214, Tryz.ntmps214
        go_wp2
        go_ret
        exact ⟨ret_bool HE2.out.symm, rfl⟩
theorem verP_is (c : Int) : M.verP c = (M.isLt c || M.isD c || markP c) := by
  unfold M.verP M.isLt M.isD markP
  rw [Bool.eq_iff_iff]
  simp only [Bool.or_eq_true, decide_eq_true_eq]
  omega
set_option maxHeartbeats 400000 in
theorem verK_any (c : Int) (w : World) :
    Calls Tryz.prog 212 #[.int .u8 c] w fun e w' => e = .returned (.bool (M.verP c)) ∧ w' = w := by
  have cL := fun w => isLetter_any c w
  have cD := fun w => isDigit_any c w
  have cK := fun w => mark_any c w
  have HE : Hid (M.verP c = (M.isLt c || M.isD c || markP c)) := verP_is c
  by_cases h1 : M.isLt c = true
  · have HE2 : Hid (M.verP c = true) := by show _ = _; rw [HE.out, h1]; rfl
    go_enter Tryz.func212, Tryz.ntmps212
    go_wp2_with (first | (go_at_call 213; refine (cL _).mono ?_; rintro e w' ⟨rfl, rfl⟩))
    go_ret
    exact ⟨ret_bool HE2.out.symm, rfl⟩
  · replace h1 : M.isLt c = false := by simpa using h1
    by_cases h2 : M.isD c = true
    · have HE2 : Hid (M.verP c = true) := by show _ = _; rw [HE.out, h1, h2]; rfl
      go_enter Tryz.func212, Tryz.ntmps212
      go_wp2_with (first | (go_at_call 213; refine (cL _).mono ?_; rintro e w' ⟨rfl, rfl⟩) | (go_at_call 211; refine (cD _).mono ?_; rintro e w' ⟨rfl, rfl⟩))
      go_ret
      exact ⟨ret_bool HE2.out.symm, rfl⟩
    · replace h2 : M.isD c = false := by simpa using h2
      have HE2 : Hid (M.verP c = markP c) := by show _ = _; rw [HE.out, h1, h2]; rfl
      go_enter Tryz.func212, Tryz.ntmps212
      go_wp2_with (first | (go_at_call 213; refine (cL _).mono ?_; rintro e w' ⟨rfl, rfl⟩) | (go_at_call 211; refine (cD _).mono ?_; rintro e w' ⟨rfl, rfl⟩) | (go_at_call 214; refine (cK _).mono ?_; rintro e w' ⟨rfl, rfl⟩))
      go_ret
      exact ⟨ret_bool HE2.out.symm, rfl⟩
set_option maxRecDepth 100000 in
set_option maxHeartbeats 1000000 in
theorem readVersion_any (s : ByteArray) (w : World) (hs : s.size ≤ 1000000) :
    Calls Tryz.prog 171 #[.string s] w fun e w' => Gives (isVerK s) (.string s) e ∧ w' = w := by
  have cM := fun w => isMadeOf_any 212 M.verP (enters_of Tryz.func212 (by kernel_rfl) rfl) verK_any s 16 w hs
  by_cases hm : madeK M.verP 16 s = true
  · have h0 := made_pos hm
    have cY := must_ok
    have cN := must_no
    have hh := head_get M.isD s h0
    by_cases hd : M.isD s[0].toNat = true
    · have HE : Hid (isVerK s = true) := by show _ = _; rw [isVerK_is, hm, hh, hd]; rfl
      clear hh cN
      go_enter Tryz.func171, Tryz.ntmps171
      go_wp2_with (first | (go_at_call 208; refine (cM _).mono ?_; rintro e w' ⟨rfl, rfl⟩) | (go_at_call 83; refine (cY _).mono ?_; rintro e w' ⟨rfl, rfl⟩) | (go_at_call 211; refine (isDigit_any _ _).mono ?_; rintro e w' ⟨rfl, rfl⟩))
      go_ret
      exact ⟨gives_t HE.out rfl, rfl⟩
    · have hd' : M.isD s[0].toNat = false := by simpa using hd
      have HE : Hid (isVerK s = false) := by show _ = _; rw [isVerK_is, hm, hh, hd']; rfl
      clear hh hd
      go_enter Tryz.func171, Tryz.ntmps171
      go_wp2_with (first | (go_at_call 208; refine (cM _).mono ?_; rintro e w' ⟨rfl, rfl⟩) | (go_at_call 83; refine (cY _).mono ?_; rintro e w' ⟨rfl, rfl⟩) | (go_at_call 83; refine (cN _).mono ?_; rintro e w' ⟨rfl, rfl⟩) | (go_at_call 211; refine (isDigit_any _ _).mono ?_; rintro e w' ⟨rfl, rfl⟩))
      exact ⟨rfl, gives_f HE.out rfl, rfl⟩
  · have hm' : madeK M.verP 16 s = false := by simpa using hm
    have HE : Hid (isVerK s = false) := by show _ = _; rw [isVerK_is, hm']; rfl
    have cN := must_no
    clear hm
    go_enter Tryz.func171, Tryz.ntmps171
    go_wp2_with (first | (go_at_call 208; refine (cM _).mono ?_; rintro e w' ⟨rfl, rfl⟩) | (go_at_call 83; refine (cN _).mono ?_; rintro e w' ⟨rfl, rfl⟩))
    exact ⟨rfl, gives_f HE.out rfl, rfl⟩
end Go.Proofs.YtgnfknjopafngaaGreatDoor
namespace Go.Proofs.YtgnfknjopafngaaGreatDoor
open Go.RowKit
theorem partP_is (c : Int) : M.partP c = (M.isSm c || M.isD c || c == 46 || c == 95) := by
  unfold M.partP M.isSm M.isD
  rw [Bool.eq_iff_iff]
  simp only [Bool.or_eq_true, decide_eq_true_eq, beq_iff_eq]
  omega
set_option maxHeartbeats 400000 in
theorem partK_any (c : Int) (w : World) :
    Calls Tryz.prog 220 #[.int .u8 c] w fun e w' => e = .returned (.bool (M.partP c)) ∧ w' = w := by
  have cS := fun w => isSmall_any c w
  have cD := fun w => isDigit_any c w
  have HE : Hid (M.partP c = (M.isSm c || M.isD c || c == 46 || c == 95)) := partP_is c
  by_cases h1 : M.isSm c = true
  · have HE2 : Hid (M.partP c = true) := by show _ = _; rw [HE.out, h1]; rfl
    go_enter Tryz.func220, Tryz.ntmps220
    go_wp2_with (go_at_call 210; refine (cS _).mono ?_; rintro e w' ⟨rfl, rfl⟩)
    go_ret
    exact ⟨ret_bool HE2.out.symm, rfl⟩
  · replace h1 : M.isSm c = false := by simpa using h1
    by_cases h2 : M.isD c = true
    · have HE2 : Hid (M.partP c = true) := by show _ = _; rw [HE.out, h1, h2]; rfl
      go_enter Tryz.func220, Tryz.ntmps220
      go_wp2_with (first | (go_at_call 210; refine (cS _).mono ?_; rintro e w' ⟨rfl, rfl⟩) | (go_at_call 211; refine (cD _).mono ?_; rintro e w' ⟨rfl, rfl⟩))
      go_ret
      exact ⟨ret_bool HE2.out.symm, rfl⟩
    · replace h2 : M.isD c = false := by simpa using h2
      by_cases h3 : (c == 46) = true
      · have HE2 : Hid (M.partP c = true) := by show _ = _; rw [HE.out, h1, h2, h3]; rfl
        go_enter Tryz.func220, Tryz.ntmps220
        go_wp2_with (first | (go_at_call 210; refine (cS _).mono ?_; rintro e w' ⟨rfl, rfl⟩) | (go_at_call 211; refine (cD _).mono ?_; rintro e w' ⟨rfl, rfl⟩))
        go_ret
        exact ⟨ret_bool HE2.out.symm, rfl⟩
      · replace h3 : (c == 46) = false := by simpa using h3
        have HE2 : Hid (M.partP c = (c == 95)) := by show _ = _; rw [HE.out, h1, h2, h3]; rfl
        go_enter Tryz.func220, Tryz.ntmps220
        go_wp2_with (first | (go_at_call 210; refine (cS _).mono ?_; rintro e w' ⟨rfl, rfl⟩) | (go_at_call 211; refine (cD _).mono ?_; rintro e w' ⟨rfl, rfl⟩))
        go_ret
        exact ⟨ret_bool HE2.out.symm, rfl⟩
def isPartB (s : ByteArray) : Bool := M.made M.partP 1 8 s.data.toList && !(s.data.toList == [46]) && !(s.data.toList == [46, 46])
theorem isPartB_is (s : ByteArray) : isPartB s = (madeK M.partP 8 s && !(s.toList == [46]) && !(s.toList == [46, 46])) := by rw [Lib.toList_data]; rfl
set_option maxRecDepth 100000 in
set_option maxHeartbeats 1000000 in
theorem readPart_any (s : ByteArray) (w : World) (hs : s.size ≤ 1000000) :
    Calls Tryz.prog 177 #[.string s] w fun e w' => Gives (isPartB s) (.string s) e ∧ w' = w := by
  have cM := fun w => isMadeOf_any 220 M.partP (enters_of Tryz.func220 (by kernel_rfl) rfl) partK_any s 8 w hs
  have HI : Hid (isPartB s = (madeK M.partP 8 s && !(s.toList == [46]) && !(s.toList == [46, 46]))) := isPartB_is s
  by_cases hm : madeK M.partP 8 s = true
  · have cY := must_ok
    have cN := must_no
    by_cases h1 : (s.toList == [46]) = true
    · have HE : Hid (isPartB s = false) := by show _ = _; rw [HI.out, hm, h1]; rfl
      go_enter Tryz.func177, Tryz.ntmps177
      go_wp2_with (first | (go_at_call 208; refine (cM _).mono ?_; rintro e w' ⟨rfl, rfl⟩) | (go_at_call 83; refine (cY _).mono ?_; rintro e w' ⟨rfl, rfl⟩) | (go_at_call 83; refine (cN _).mono ?_; rintro e w' ⟨rfl, rfl⟩))
      exact ⟨rfl, gives_f HE.out rfl, rfl⟩
    · replace h1 : (s.toList == [46]) = false := by simpa using h1
      by_cases h2 : (s.toList == [46, 46]) = true
      · have HE : Hid (isPartB s = false) := by show _ = _; rw [HI.out, hm, h1, h2]; rfl
        go_enter Tryz.func177, Tryz.ntmps177
        go_wp2_with (first | (go_at_call 208; refine (cM _).mono ?_; rintro e w' ⟨rfl, rfl⟩) | (go_at_call 83; refine (cY _).mono ?_; rintro e w' ⟨rfl, rfl⟩) | (go_at_call 83; refine (cN _).mono ?_; rintro e w' ⟨rfl, rfl⟩))
        exact ⟨rfl, gives_f HE.out rfl, rfl⟩
      · replace h2 : (s.toList == [46, 46]) = false := by simpa using h2
        have HE : Hid (isPartB s = true) := by show _ = _; rw [HI.out, hm, h1, h2]; rfl
        clear cN
        go_enter Tryz.func177, Tryz.ntmps177
        go_wp2_with (first | (go_at_call 208; refine (cM _).mono ?_; rintro e w' ⟨rfl, rfl⟩) | (go_at_call 83; refine (cY _).mono ?_; rintro e w' ⟨rfl, rfl⟩))
        go_ret
        exact ⟨gives_t HE.out rfl, rfl⟩
  · replace hm : madeK M.partP 8 s = false := by simpa using hm
    have HE : Hid (isPartB s = false) := by show _ = _; rw [HI.out, hm]; rfl
    have cN := must_no
    go_enter Tryz.func177, Tryz.ntmps177
    go_wp2_with (first | (go_at_call 208; refine (cM _).mono ?_; rintro e w' ⟨rfl, rfl⟩) | (go_at_call 83; refine (cN _).mono ?_; rintro e w' ⟨rfl, rfl⟩))
    exact ⟨rfl, gives_f HE.out rfl, rfl⟩
end Go.Proofs.YtgnfknjopafngaaGreatDoor
namespace Go.Proofs.YtgnfknjopafngaaGreatDoor
open Go.RowKit
def signB (s : ByteArray) : Bool := s.toList == [60, 60] || s.toList == [60, 61] || s.toList == [61] || s.toList == [62, 61] || s.toList == [62, 62]
set_option maxHeartbeats 400000 in
theorem isSign_any (s : ByteArray) (w : World) :
    Calls Tryz.prog 216 #[.string s] w fun e w' => e = .returned (.bool (signB s)) ∧ w' = w := by
  have HE : Hid (signB s = (s.toList == [60, 60] || s.toList == [60, 61] || s.toList == [61] || s.toList == [62, 61] || s.toList == [62, 62])) := rfl
  by_cases h1 : (s.toList == [60, 60]) = true
  · have HE2 : Hid (signB s = true) := by show _ = _; rw [HE.out, h1]; rfl
    go_enter Tryz.func216, Tryz.ntmps216
    go_wp2
    go_ret
    exact ⟨ret_bool HE2.out.symm, rfl⟩
  replace h1 : (s.toList == [60, 60]) = false := by simpa using h1
  by_cases h2 : (s.toList == [60, 61]) = true
  · have HE2 : Hid (signB s = true) := by show _ = _; rw [HE.out, h1, h2]; rfl
    go_enter Tryz.func216, Tryz.ntmps216
    go_wp2
    go_ret
    exact ⟨ret_bool HE2.out.symm, rfl⟩
  replace h2 : (s.toList == [60, 61]) = false := by simpa using h2
  by_cases h3 : (s.toList == [61]) = true
  · have HE2 : Hid (signB s = true) := by show _ = _; rw [HE.out, h1, h2, h3]; rfl
    go_enter Tryz.func216, Tryz.ntmps216
    go_wp2
    go_ret
    exact ⟨ret_bool HE2.out.symm, rfl⟩
  replace h3 : (s.toList == [61]) = false := by simpa using h3
  by_cases h4 : (s.toList == [62, 61]) = true
  · have HE2 : Hid (signB s = true) := by show _ = _; rw [HE.out, h1, h2, h3, h4]; rfl
    go_enter Tryz.func216, Tryz.ntmps216
    go_wp2
    go_ret
    exact ⟨ret_bool HE2.out.symm, rfl⟩
  replace h4 : (s.toList == [62, 61]) = false := by simpa using h4
  by_cases h5 : (s.toList == [62, 62]) = true
  · have HE2 : Hid (signB s = true) := by show _ = _; rw [HE.out, h1, h2, h3, h4, h5]; rfl
    go_enter Tryz.func216, Tryz.ntmps216
    go_wp2
    go_ret
    exact ⟨ret_bool HE2.out.symm, rfl⟩
  replace h5 : (s.toList == [62, 62]) = false := by simpa using h5
  have HE2 : Hid (signB s = false) := by show _ = _; rw [HE.out, h1, h2, h3, h4, h5]; rfl
  go_enter Tryz.func216, Tryz.ntmps216
  go_wp2
  go_ret
  exact ⟨ret_bool HE2.out.symm, rfl⟩
end Go.Proofs.YtgnfknjopafngaaGreatDoor
