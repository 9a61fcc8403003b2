import Derived.Test.YtgnfknjopafngaaGreatDoorKfa
import GoSem.Op.String
namespace Go.Proofs.YtgnfknjopafngaaGreatDoor
namespace M
def nameP (c : Int) : Bool := decide ((97 ≤ c ∧ c ≤ 122) ∨ (48 ≤ c ∧ c ≤ 57) ∨ c = 45)
def verP (c : Int) : Bool := decide ((97 ≤ c ∧ c ≤ 122) ∨ (65 ≤ c ∧ c ≤ 90) ∨ (48 ≤ c ∧ c ≤ 57) ∨ c = 46 ∨ c = 43 ∨ c = 45 ∨ c = 126)
def partP (c : Int) : Bool := decide ((97 ≤ c ∧ c ≤ 122) ∨ (48 ≤ c ∧ c ≤ 57) ∨ c = 46 ∨ c = 95)
def made (p : Int → Bool) (least most : Nat) (s : List UInt8) : Bool := s.all (fun b => p b.toNat) && (decide (least ≤ s.length) && decide (s.length ≤ most))
def headP (p : Int → Bool) (s : List UInt8) : Bool := match s with
  | [] => false
  | b :: _ => p b.toNat
def isNameS (s : List UInt8) : Bool := made nameP 1 12 s && headP isSm s
def isVerS (s : List UInt8) : Bool := made verP 1 16 s && headP isD s
def cutA (sep : List UInt8) : Nat → List UInt8 → List UInt8 → List (List UInt8)
  | 0, cur, rest => [cur ++ rest]
  | n + 1, cur, rest =>
    if rest.length < sep.length then [cur ++ rest]
    else if rest.take sep.length = sep then cur :: cutA sep n [] (rest.drop sep.length)
    else cutA sep n (cur ++ rest.take 1) (rest.drop 1)
def cutS (s sep : List UInt8) : List (List UInt8) := cutA sep s.length [] s
theorem cutA_any {sep : List UInt8} (hs : 0 < sep.length) : ∀ (n m : Nat) (cur rest : List UInt8), rest.length ≤ n → rest.length ≤ m → cutA sep n cur rest = cutA sep m cur rest
  | 0, 0, _, _, _, _ => rfl
  | 0, m + 1, cur, rest, hn, _ => by
    have : rest = [] := List.length_eq_zero_iff.mp (by omega)
    subst this
    simp only [cutA, List.length_nil]
    rw [if_pos hs]
  | n + 1, 0, cur, rest, _, hm => by
    have : rest = [] := List.length_eq_zero_iff.mp (by omega)
    subst this
    simp only [cutA, List.length_nil]
    rw [if_pos hs]
  | n + 1, m + 1, cur, rest, hn, hm => by
    simp only [cutA]
    by_cases h1 : rest.length < sep.length
    · rw [if_pos h1, if_pos h1]
    · rw [if_neg h1, if_neg h1]
      rw [cutA_any hs n m [] (rest.drop sep.length) (by simp; omega) (by simp; omega), cutA_any hs n m (cur ++ rest.take 1) (rest.drop 1) (by simp; omega) (by simp; omega)]
theorem cutA_stop {sep : List UInt8} (n : Nat) (cur rest : List UInt8) (h : rest.length < sep.length) : cutA sep n cur rest = [cur ++ rest] := by
  cases n with
  | zero => rfl
  | succ n => simp only [cutA]; rw [if_pos h]
theorem cutA_hit {sep : List UInt8} (hs : 0 < sep.length) (n m : Nat) (cur rest : List UInt8) (hn : rest.length ≤ n) (hm : (rest.drop sep.length).length ≤ m) (h : ¬ rest.length < sep.length) (h2 : rest.take sep.length = sep) :
    cutA sep n cur rest = cur :: cutA sep m [] (rest.drop sep.length) := by
  cases n with
  | zero => omega
  | succ n =>
    simp only [cutA]
    rw [if_neg h, if_pos h2, cutA_any hs n m _ _ (by simp; omega) hm]
theorem cutA_miss {sep : List UInt8} (hs : 0 < sep.length) (n m : Nat) (cur rest : List UInt8) (hn : rest.length ≤ n) (hm : (rest.drop 1).length ≤ m) (h : ¬ rest.length < sep.length) (h2 : ¬ rest.take sep.length = sep) :
    cutA sep n cur rest = cutA sep m (cur ++ rest.take 1) (rest.drop 1) := by
  cases n with
  | zero => omega
  | succ n =>
    simp only [cutA]
    rw [if_neg h, if_neg h2, cutA_any hs n m _ _ (by simp; omega) hm]
theorem cutA_len {sep : List UInt8} : ∀ (n : Nat) (cur rest : List UInt8), 0 < (cutA sep n cur rest).length ∧ (cutA sep n cur rest).length ≤ n + 1
  | 0, _, _ => by simp [cutA]
  | n + 1, cur, rest => by
    simp only [cutA]
    split
    · simp
    · split
      · have := cutA_len (sep := sep) n [] (rest.drop sep.length); simp; omega
      · have := cutA_len (sep := sep) n (cur ++ rest.take 1) (rest.drop 1); omega
theorem cutS_len (s sep : List UInt8) : 0 < (cutS s sep).length ∧ (cutS s sep).length ≤ s.length + 1 := cutA_len _ _ _
theorem cutA_mem {sep : List UInt8} : ∀ (n : Nat) (cur rest : List UInt8), ∀ x ∈ cutA sep n cur rest, x.length ≤ cur.length + rest.length
  | 0, cur, rest, x, hx => by simp [cutA] at hx; subst hx; simp
  | n + 1, cur, rest, x, hx => by
    simp only [cutA] at hx
    split at hx
    · simp at hx; subst hx; simp
    · split at hx
      · rcases List.mem_cons.mp hx with rfl | hx
        · omega
        · have := cutA_mem (sep := sep) n [] (rest.drop sep.length) x hx; simp at this; omega
      · have := cutA_mem (sep := sep) n (cur ++ rest.take 1) (rest.drop 1) x hx
        simp only [List.length_append, List.length_take, List.length_drop] at this; omega
theorem cutS_mem (s sep : List UInt8) (x : List UInt8) (h : x ∈ cutS s sep) : x.length ≤ s.length := by
  have := cutA_mem (sep := sep) s.length [] s x h; simpa using this
def begins (s t : List UInt8) : Bool := decide (t.length ≤ s.length) && (s.take t.length == t)
def over (a b : List UInt8) : Bool := begins b (a ++ [47])
structure Ch where
  name : List UInt8
  sign : List UInt8
  ver : List UInt8
structure Fl where
  path : List UInt8
  content : List UInt8
structure Pk where
  name : List UInt8
  ver : List UInt8
  needs : List (List Ch)
  bars : List Ch
  files : List Fl
def isSignP (p : List UInt8) : Bool := p == [40, 60, 60] || p == [40, 60, 61] || p == [40, 61] || p == [40, 62, 61] || p == [40, 62, 62]
def choiceS (s : List UInt8) : Option Ch := match cutS s [32] with
  | [p0] => if isNameS p0 = true then some ⟨s, [], []⟩ else none
  | [p0, p1, p2] =>
    if isNameS p0 = true ∧ 0 < p2.length ∧ isVerS (p2.take (p2.length - 1)) = true ∧ isSignP p1 = true ∧ (p2.drop (p2.length - 1) == [41]) = true then some ⟨p0, p1.drop 1, p2.take (p2.length - 1)⟩ else none
  | _ => none
def allS {α : Type} (f : List UInt8 → Option α) : List (List UInt8) → Option (List α)
  | [] => some []
  | s :: l => match f s with
    | none => none
    | some c => match allS f l with
      | none => none
      | some r => some (c :: r)
def choicesS (s sep : List UInt8) (most : Nat) : Option (List Ch) := match allS choiceS (cutS s sep) with
  | none => none
  | some l => if l.length ≤ most then some l else none
def isPathS (s : List UInt8) : Bool := (cutS s [47]).all (fun q => made partP 1 8 q && !(q == [46]) && !(q == [46, 46])) && decide ((cutS s [47]).length ≤ 3)
def fileS (s : List UInt8) : Option Fl :=
  if lead (fun c => decide (c ≠ 61)) s = s.length then none
  else if isPathS (s.take (lead (fun c => decide (c ≠ 61)) s)) = true ∧ s.length - lead (fun c => decide (c ≠ 61)) s - 1 ≤ 24 then
    some ⟨s.take (lead (fun c => decide (c ≠ 61)) s), s.drop (lead (fun c => decide (c ≠ 61)) s + 1)⟩
  else none
def needsW : List UInt8 := [110, 101, 101, 100, 115, 32]
def barsW : List UInt8 := [98, 97, 114, 115, 32]
def fileW : List UInt8 := [102, 105, 108, 101, 32]
def titleS (s : List UInt8) : Option (List UInt8 × List UInt8) := match cutS s [32] with
  | [a, b, c] => if (a == [112, 97, 99, 107, 97, 103, 101]) = true ∧ isNameS b = true ∧ isVerS c = true then some (b, c) else none
  | _ => none
def apart (f g : Fl) : Bool := !over f.path g.path && !over g.path f.path && !(f.path == g.path)
def groupS (s : List UInt8) : Option (List Ch) := choicesS s [32, 124, 32] 3
def lineS (p : Pk) (k : Nat) (s : List UInt8) : Option Pk :=
  if k = 0 then (match titleS s with
    | none => none
    | some (a, b) => some { p with name := a, ver := b })
  else if begins s needsW = true ∧ p.needs.length + p.bars.length + p.files.length = 0 then (match allS groupS (cutS (s.drop 6) [44, 32]) with
    | none => none
    | some l => if l.length ≤ 3 then some { p with needs := l } else none)
  else if begins s barsW = true ∧ p.bars.length + p.files.length = 0 then (match choicesS (s.drop 5) [44, 32] 3 with
    | none => none
    | some l => some { p with bars := l })
  else if begins s fileW = true ∧ p.files.length < 4 then (match fileS (s.drop 5) with
    | none => none
    | some f => if p.files.all (apart f) = true then some { p with files := p.files ++ [f] } else none)
  else none
end M
end Go.Proofs.YtgnfknjopafngaaGreatDoor
namespace Go.Proofs.YtgnfknjopafngaaGreatDoor
open Go.RowKit
def Thrown (e : Ending) : Prop := e = .panicked [{ v := .iface 115 (.int .i64 1), recovered := false }]
theorem must_ok (w : World) : Calls Tryz.prog 83 #[.bool true] w fun e w' => e = .returned (.tuple #[]) ∧ w' = w := by
  go_enter Tryz.func83, Tryz.ntmps83
  go_wp2
  exact ⟨rfl, .tuple #[], by simp [results, go_sem, Tryz.results83], rfl, rfl⟩
theorem must_no (w : World) : Calls Tryz.prog 83 #[.bool false] w fun e w' => Thrown e ∧ w' = w := by
  go_enter Tryz.func83, Tryz.ntmps83
  go_wp2
  exact ⟨rfl, rfl, rfl⟩
namespace M
theorem lead_all (p : Int → Bool) : ∀ (l : List UInt8), lead p l = l.length ↔ l.all (fun b => p b.toNat) = true
  | [] => by simp [lead]
  | b :: l => by
    have ih := lead_all p l
    rw [lead_cons]
    by_cases h : p b.toNat = true
    · rw [if_pos h]; simp [h] at ih ⊢; exact ih
    · rw [if_neg h]; simp [h]
theorem made_f1 (p : Int → Bool) (m : Nat) (l : List UInt8) (h : l.length = 0) : made p 1 m l = false := by unfold made; simp [h]
theorem made_f2 (p : Int → Bool) (m : Nat) (l : List UInt8) (h : ¬ l.length ≤ m) : made p 1 m l = false := by unfold made; simp [h]
theorem made_is (p : Int → Bool) (m : Nat) (l : List UInt8) (h0 : l.length ≠ 0) (h : l.length ≤ m) : made p 1 m l = decide (lead p l = l.length) := by
  unfold made
  rw [decide_eq_true (show 1 ≤ l.length by omega), decide_eq_true h]
  rw [Bool.and_true, Bool.and_true, Bool.eq_iff_iff, decide_eq_true_iff, lead_all]
end M
def madeK (p : Int → Bool) (m : Nat) (s : ByteArray) : Bool := M.made p 1 m s.data.toList
set_option maxRecDepth 100000 in
set_option maxHeartbeats 1000000 in
theorem isMadeOf_any (f : FuncId) (p : Int → Bool) (he : ∀ args w, (callFunc f args).run Tryz.prog w = .ok (.enter f args) w)
    (hk : ∀ c w, Calls Tryz.prog f #[.int .u8 c] w fun e w' => e = .returned (.bool (p c)) ∧ w' = w) (s : ByteArray) (m : Nat) (w : World) (hs : s.size ≤ 1000000) :
    Calls Tryz.prog 208 #[.string s, .int .i64 m, .func (.func f) #[] #[]] w fun e w' => e = .returned (.bool (madeK p m s)) ∧ w' = w := by
  have hle := M.lead_le p s.data.toList
  rw [Array.length_toList, ByteArray.size_data] at hle
  have HL0 : s.data.toList.length = s.size := by simp
  obtain ⟨n, hn⟩ : ∃ n, n = M.lead p s.data.toList := ⟨_, rfl⟩
  have cL := fun w => lead_any f p he hk s w (by unfold maxLen; omega)
  rw [← hn] at cL hle
  by_cases h0 : s.toList.isEmpty = true
  · have HB : Hid (madeK p m s = false) := M.made_f1 _ _ _ (by rw [Lib.toList_data, List.isEmpty_iff] at h0; rw [h0]; rfl)
    clear hn HL0
    go_enter Tryz.func208, Tryz.ntmps208
    go_wp2_with fail
    go_ret
    exact ⟨ret_bool HB.out.symm, rfl⟩
  · have h0' : s.toList.isEmpty = false := by simpa using h0
    have hl0 : s.size ≠ 0 := by intro e; apply h0; rw [Lib.toList_data, List.isEmpty_iff_length_eq_zero]; simpa using e
    by_cases h1 : s.size ≤ m
    · have h1' : (s.size : Int) ≤ m := by omega
      have HB : Hid (madeK p m s = decide ((n : Int) = s.size)) := by
        show _ = _
        unfold madeK
        rw [M.made_is _ _ _ (by rw [HL0]; exact hl0) (by rw [HL0]; exact h1), ← hn, HL0]
        rw [decide_eq_decide]; omega
      clear hn HL0 h0
      by_cases h2 : (n : Int) = s.size
      · have h2' : ((n : Int) == s.size) = true := by simpa using h2
        have HB2 : Hid (madeK p m s = true) := by show _ = _; rw [HB.out]; simpa using h2
        clear h2
        go_enter Tryz.func208, Tryz.ntmps208
        go_wp2_with (go_at_call 252; refine (cL _).mono ?_; rintro e w' ⟨rfl, rfl⟩)
        go_ret
        exact ⟨ret_bool HB2.out.symm, rfl⟩
      · have h2' : ((n : Int) == s.size) = false := by simpa using h2
        have HB2 : Hid (madeK p m s = false) := by show _ = _; rw [HB.out]; simpa using h2
        clear h2
        go_enter Tryz.func208, Tryz.ntmps208
        go_wp2_with (go_at_call 252; refine (cL _).mono ?_; rintro e w' ⟨rfl, rfl⟩)
        go_ret
        exact ⟨ret_bool HB2.out.symm, rfl⟩
    · have h1' : ¬ (s.size : Int) ≤ m := by omega
      have HB : Hid (madeK p m s = false) := M.made_f2 _ _ _ (by rw [HL0]; exact h1)
      clear hn HL0 h0
      go_enter Tryz.func208, Tryz.ntmps208
      go_wp2_with fail
      go_ret
      exact ⟨ret_bool HB.out.symm, rfl⟩
end Go.Proofs.YtgnfknjopafngaaGreatDoor
namespace Go.Proofs.YtgnfknjopafngaaGreatDoor
open Go.RowKit
set_option maxHeartbeats 400000 in
theorem nameK_any (c : Int) (w : World) :
    Calls Tryz.prog 209 #[.int .u8 c] w fun e w' => e = .returned (.bool (M.nameP c)) ∧ w' = w := by
  by_cases h1 : M.isSm c = true
  · have HE : Hid (M.nameP c = true) := by show _ = _; unfold M.isSm at h1; unfold M.nameP; simp at h1 ⊢; omega
    go_enter Tryz.func209, Tryz.ntmps209
    go_wp2_with (first | (go_at_call 210; refine (isSmall_any _ _).mono ?_; rintro e w' ⟨rfl, rfl⟩) | (go_at_call 211; refine (isDigit_any _ _).mono ?_; rintro e w' ⟨rfl, rfl⟩))
    go_ret
    exact ⟨ret_bool HE.out.symm, rfl⟩
  · have h1' : M.isSm c = false := by simpa using h1
    by_cases h2 : M.isD c = true
    · have HE : Hid (M.nameP c = true) := by show _ = _; unfold M.isD at h2; unfold M.nameP; simp at h2 ⊢; omega
      clear h1
      go_enter Tryz.func209, Tryz.ntmps209
      go_wp2_with (first | (go_at_call 210; refine (isSmall_any _ _).mono ?_; rintro e w' ⟨rfl, rfl⟩) | (go_at_call 211; refine (isDigit_any _ _).mono ?_; rintro e w' ⟨rfl, rfl⟩))
      go_ret
      exact ⟨ret_bool HE.out.symm, rfl⟩
    · have h2' : M.isD c = false := by simpa using h2
      have HE : Hid (M.nameP c = (c == 45)) := by
        show _ = _
        unfold M.isSm at h1; unfold M.isD at h2; unfold M.nameP
        simp only [decide_eq_true_eq] at h1 h2
        rw [Bool.eq_iff_iff, decide_eq_true_eq, beq_iff_eq]
        omega
      clear h1 h2
      go_enter Tryz.func209, Tryz.ntmps209
      go_wp2_with (first | (go_at_call 210; refine (isSmall_any _ _).mono ?_; rintro e w' ⟨rfl, rfl⟩) | (go_at_call 211; refine (isDigit_any _ _).mono ?_; rintro e w' ⟨rfl, rfl⟩))
      go_ret
      exact ⟨ret_bool HE.out.symm, rfl⟩
def Gives (b : Bool) (v : Value) (e : Ending) : Prop := if b = true then e = .returned v else Thrown e
theorem gives_t {b : Bool} {v : Value} {e : Ending} (hb : b = true) (h : e = .returned v) : Gives b v e := by unfold Gives; rw [if_pos hb]; exact h
theorem gives_f {b : Bool} {v : Value} {e : Ending} (hb : b = false) (h : Thrown e) : Gives b v e := by unfold Gives; rw [if_neg (by rw [hb]; decide)]; exact h
def isNameK (s : ByteArray) : Bool := M.isNameS s.data.toList
def isVerK (s : ByteArray) : Bool := M.isVerS s.data.toList
theorem head_get (p : Int → Bool) (s : ByteArray) (h : 0 < s.size) : M.headP p s.data.toList = p s[0].toNat := by
  cases s with
  | mk a =>
    cases a with
    | mk l =>
      cases l with
      | nil => exact absurd h (by decide)
      | cons b l => rfl
theorem made_pos {p : Int → Bool} {m : Nat} {s : ByteArray} (h : madeK p m s = true) : 0 < s.size := by
  unfold madeK M.made at h
  simp only [Bool.and_eq_true, decide_eq_true_eq, Array.length_toList, ByteArray.size_data] at h
  omega
theorem isNameK_is (s : ByteArray) : isNameK s = (madeK M.nameP 12 s && M.headP M.isSm s.data.toList) := rfl
theorem isVerK_is (s : ByteArray) : isVerK s = (madeK M.verP 16 s && M.headP M.isD s.data.toList) := rfl
set_option maxRecDepth 100000 in
set_option maxHeartbeats 1000000 in
theorem readName_any (s : ByteArray) (w : World) (hs : s.size ≤ 1000000) :
    Calls Tryz.prog 170 #[.string s] w fun e w' => Gives (isNameK s) (.string s) e ∧ w' = w := by
  have cM := fun w => isMadeOf_any 209 M.nameP (enters_of Tryz.func209 (by kernel_rfl) rfl) nameK_any s 12 w hs
  by_cases hm : madeK M.nameP 12 s = true
  · have h0 := made_pos hm
    have cY := must_ok
    have cN := must_no
    have hh := head_get M.isSm s h0
    by_cases hd : M.isSm s[0].toNat = true
    · have HE : Hid (isNameK s = true) := by show _ = _; rw [isNameK_is, hm, hh, hd]; rfl
      clear hh cN
      go_enter Tryz.func170, Tryz.ntmps170
      go_wp2_with (first | (go_at_call 208; refine (cM _).mono ?_; rintro e w' ⟨rfl, rfl⟩) | (go_at_call 83; refine (cY _).mono ?_; rintro e w' ⟨rfl, rfl⟩) | (go_at_call 210; refine (isSmall_any _ _).mono ?_; rintro e w' ⟨rfl, rfl⟩))
      go_ret
      exact ⟨gives_t HE.out rfl, rfl⟩
    · have hd' : M.isSm s[0].toNat = false := by simpa using hd
      have HE : Hid (isNameK s = false) := by show _ = _; rw [isNameK_is, hm, hh, hd']; rfl
      clear hh hd
      go_enter Tryz.func170, Tryz.ntmps170
      go_wp2_with (first | (go_at_call 208; refine (cM _).mono ?_; rintro e w' ⟨rfl, rfl⟩) | (go_at_call 83; refine (cY _).mono ?_; rintro e w' ⟨rfl, rfl⟩) | (go_at_call 83; refine (cN _).mono ?_; rintro e w' ⟨rfl, rfl⟩) | (go_at_call 210; refine (isSmall_any _ _).mono ?_; rintro e w' ⟨rfl, rfl⟩))
      exact ⟨rfl, gives_f HE.out rfl, rfl⟩
  · have hm' : madeK M.nameP 12 s = false := by simpa using hm
    have HE : Hid (isNameK s = false) := by show _ = _; rw [isNameK_is, hm']; rfl
    have cN := must_no
    clear hm
    go_enter Tryz.func170, Tryz.ntmps170
    go_wp2_with (first | (go_at_call 208; refine (cM _).mono ?_; rintro e w' ⟨rfl, rfl⟩) | (go_at_call 83; refine (cN _).mono ?_; rintro e w' ⟨rfl, rfl⟩))
    exact ⟨rfl, gives_f HE.out rfl, rfl⟩
end Go.Proofs.YtgnfknjopafngaaGreatDoor
namespace Go.Proofs.YtgnfknjopafngaaGreatDoor
open Go.RowKit
def markP (c : Int) : Bool := decide (c = 46 ∨ c = 43 ∨ c = 45 ∨ c = 126)
set_option maxHeartbeats 400000 in
theorem mark_any (c : Int) (w : World) :
    Calls Tryz.prog 214 #[.int .u8 c] w fun e w' => e = .returned (.bool (markP c)) ∧ w' = w := by
  have HE : Hid (markP c = (c == 46 || c == 43 || c == 45 || c == 126)) := by
    show _ = _
    unfold markP
    rw [Bool.eq_iff_iff]
    simp [or_assoc]
  by_cases h1 : (c == 46) = true
  · have HE2 : Hid (markP c = true) := by show _ = _; rw [HE.out, h1]; rfl
    go_enter Tryz.func214, Tryz.ntmps214
    go_wp2
    go_ret
    exact ⟨ret_bool HE2.out.symm, rfl⟩
  · replace h1 : (c == 46) = false := by simpa using h1
    by_cases h2 : (c == 43) = true
    · have HE2 : Hid (markP c = true) := by show _ = _; rw [HE.out, h1, h2]; rfl
      go_enter Tryz.func214, Tryz.ntmps214
      go_wp2
      go_ret
      exact ⟨ret_bool HE2.out.symm, rfl⟩
    · replace h2 : (c == 43) = false := by simpa using h2
      by_cases h3 : (c == 45) = true
      · have HE2 : Hid (markP c = true) := by show _ = _; rw [HE.out, h1, h2, h3]; rfl
        go_enter Tryz.func214, Tryz.ntmps214
        go_wp2
        go_ret
        exact ⟨ret_bool HE2.out.symm, rfl⟩
      · replace h3 : (c == 45) = false := by simpa using h3
        have HE2 : Hid (markP c = (c == 126)) := by show _ = _; rw [HE.out, h1, h2, h3]; rfl
        go_enter Tryz.func214, Tryz.ntmps214
        go_wp2
        go_ret
        exact ⟨ret_bool HE2.out.symm, rfl⟩
theorem verP_is (c : Int) : M.verP c = (M.isLt c || M.isD c || markP c) := by
  unfold M.verP M.isLt M.isD markP
  rw [Bool.eq_iff_iff]
  simp only [Bool.or_eq_true, decide_eq_true_eq]
  omega
set_option maxHeartbeats 400000 in
theorem verK_any (c : Int) (w : World) :
    Calls Tryz.prog 212 #[.int .u8 c] w fun e w' => e = .returned (.bool (M.verP c)) ∧ w' = w := by
  have cL := fun w => isLetter_any c w
  have cD := fun w => isDigit_any c w
  have cK := fun w => mark_any c w
  have HE : Hid (M.verP c = (M.isLt c || M.isD c || markP c)) := verP_is c
  by_cases h1 : M.isLt c = true
  · have HE2 : Hid (M.verP c = true) := by show _ = _; rw [HE.out, h1]; rfl
    go_enter Tryz.func212, Tryz.ntmps212
    go_wp2_with (first | (go_at_call 213; refine (cL _).mono ?_; rintro e w' ⟨rfl, rfl⟩))
    go_ret
    exact ⟨ret_bool HE2.out.symm, rfl⟩
  · replace h1 : M.isLt c = false := by simpa using h1
    by_cases h2 : M.isD c = true
    · have HE2 : Hid (M.verP c = true) := by show _ = _; rw [HE.out, h1, h2]; rfl
      go_enter Tryz.func212, Tryz.ntmps212
      go_wp2_with (first | (go_at_call 213; refine (cL _).mono ?_; rintro e w' ⟨rfl, rfl⟩) | (go_at_call 211; refine (cD _).mono ?_; rintro e w' ⟨rfl, rfl⟩))
      go_ret
      exact ⟨ret_bool HE2.out.symm, rfl⟩
    · replace h2 : M.isD c = false := by simpa using h2
      have HE2 : Hid (M.verP c = markP c) := by show _ = _; rw [HE.out, h1, h2]; rfl
      go_enter Tryz.func212, Tryz.ntmps212
      go_wp2_with (first | (go_at_call 213; refine (cL _).mono ?_; rintro e w' ⟨rfl, rfl⟩) | (go_at_call 211; refine (cD _).mono ?_; rintro e w' ⟨rfl, rfl⟩) | (go_at_call 214; refine (cK _).mono ?_; rintro e w' ⟨rfl, rfl⟩))
      go_ret
      exact ⟨ret_bool HE2.out.symm, rfl⟩
set_option maxRecDepth 100000 in
set_option maxHeartbeats 1000000 in
theorem readVersion_any (s : ByteArray) (w : World) (hs : s.size ≤ 1000000) :
    Calls Tryz.prog 171 #[.string s] w fun e w' => Gives (isVerK s) (.string s) e ∧ w' = w := by
  have cM := fun w => isMadeOf_any 212 M.verP (enters_of Tryz.func212 (by kernel_rfl) rfl) verK_any s 16 w hs
  by_cases hm : madeK M.verP 16 s = true
  · have h0 := made_pos hm
    have cY := must_ok
    have cN := must_no
    have hh := head_get M.isD s h0
    by_cases hd : M.isD s[0].toNat = true
    · have HE : Hid (isVerK s = true) := by show _ = _; rw [isVerK_is, hm, hh, hd]; rfl
      clear hh cN
      go_enter Tryz.func171, Tryz.ntmps171
      go_wp2_with (first | (go_at_call 208; refine (cM _).mono ?_; rintro e w' ⟨rfl, rfl⟩) | (go_at_call 83; refine (cY _).mono ?_; rintro e w' ⟨rfl, rfl⟩) | (go_at_call 211; refine (isDigit_any _ _).mono ?_; rintro e w' ⟨rfl, rfl⟩))
      go_ret
      exact ⟨gives_t HE.out rfl, rfl⟩
    · have hd' : M.isD s[0].toNat = false := by simpa using hd
      have HE : Hid (isVerK s = false) := by show _ = _; rw [isVerK_is, hm, hh, hd']; rfl
      clear hh hd
      go_enter Tryz.func171, Tryz.ntmps171
      go_wp2_with (first | (go_at_call 208; refine (cM _).mono ?_; rintro e w' ⟨rfl, rfl⟩) | (go_at_call 83; refine (cY _).mono ?_; rintro e w' ⟨rfl, rfl⟩) | (go_at_call 83; refine (cN _).mono ?_; rintro e w' ⟨rfl, rfl⟩) | (go_at_call 211; refine (isDigit_any _ _).mono ?_; rintro e w' ⟨rfl, rfl⟩))
      exact ⟨rfl, gives_f HE.out rfl, rfl⟩
  · have hm' : madeK M.verP 16 s = false := by simpa using hm
    have HE : Hid (isVerK s = false) := by show _ = _; rw [isVerK_is, hm']; rfl
    have cN := must_no
    clear hm
    go_enter Tryz.func171, Tryz.ntmps171
    go_wp2_with (first | (go_at_call 208; refine (cM _).mono ?_; rintro e w' ⟨rfl, rfl⟩) | (go_at_call 83; refine (cN _).mono ?_; rintro e w' ⟨rfl, rfl⟩))
    exact ⟨rfl, gives_f HE.out rfl, rfl⟩
end Go.Proofs.YtgnfknjopafngaaGreatDoor
namespace Go.Proofs.YtgnfknjopafngaaGreatDoor
open Go.RowKit
theorem partP_is (c : Int) : M.partP c = (M.isSm c || M.isD c || c == 46 || c == 95) := by
  unfold M.partP M.isSm M.isD
  rw [Bool.eq_iff_iff]
  simp only [Bool.or_eq_true, decide_eq_true_eq, beq_iff_eq]
  omega
set_option maxHeartbeats 400000 in
theorem partK_any (c : Int) (w : World) :
    Calls Tryz.prog 220 #[.int .u8 c] w fun e w' => e = .returned (.bool (M.partP c)) ∧ w' = w := by
  have cS := fun w => isSmall_any c w
  have cD := fun w => isDigit_any c w
  have HE : Hid (M.partP c = (M.isSm c || M.isD c || c == 46 || c == 95)) := partP_is c
  by_cases h1 : M.isSm c = true
  · have HE2 : Hid (M.partP c = true) := by show _ = _; rw [HE.out, h1]; rfl
    go_enter Tryz.func220, Tryz.ntmps220
    go_wp2_with (go_at_call 210; refine (cS _).mono ?_; rintro e w' ⟨rfl, rfl⟩)
    go_ret
    exact ⟨ret_bool HE2.out.symm, rfl⟩
  · replace h1 : M.isSm c = false := by simpa using h1
    by_cases h2 : M.isD c = true
    · have HE2 : Hid (M.partP c = true) := by show _ = _; rw [HE.out, h1, h2]; rfl
      go_enter Tryz.func220, Tryz.ntmps220
      go_wp2_with (first | (go_at_call 210; refine (cS _).mono ?_; rintro e w' ⟨rfl, rfl⟩) | (go_at_call 211; refine (cD _).mono ?_; rintro e w' ⟨rfl, rfl⟩))
      go_ret
      exact ⟨ret_bool HE2.out.symm, rfl⟩
    · replace h2 : M.isD c = false := by simpa using h2
      by_cases h3 : (c == 46) = true
      · have HE2 : Hid (M.partP c = true) := by show _ = _; rw [HE.out, h1, h2, h3]; rfl
        go_enter Tryz.func220, Tryz.ntmps220
        go_wp2_with (first | (go_at_call 210; refine (cS _).mono ?_; rintro e w' ⟨rfl, rfl⟩) | (go_at_call 211; refine (cD _).mono ?_; rintro e w' ⟨rfl, rfl⟩))
        go_ret
        exact ⟨ret_bool HE2.out.symm, rfl⟩
      · replace h3 : (c == 46) = false := by simpa using h3
        have HE2 : Hid (M.partP c = (c == 95)) := by show _ = _; rw [HE.out, h1, h2, h3]; rfl
        go_enter Tryz.func220, Tryz.ntmps220
        go_wp2_with (first | (go_at_call 210; refine (cS _).mono ?_; rintro e w' ⟨rfl, rfl⟩) | (go_at_call 211; refine (cD _).mono ?_; rintro e w' ⟨rfl, rfl⟩))
        go_ret
        exact ⟨ret_bool HE2.out.symm, rfl⟩
def isPartB (s : ByteArray) : Bool := M.made M.partP 1 8 s.data.toList && !(s.data.toList == [46]) && !(s.data.toList == [46, 46])
theorem isPartB_is (s : ByteArray) : isPartB s = (madeK M.partP 8 s && !(s.toList == [46]) && !(s.toList == [46, 46])) := by rw [Lib.toList_data]; rfl
set_option maxRecDepth 100000 in
set_option maxHeartbeats 1000000 in
theorem readPart_any (s : ByteArray) (w : World) (hs : s.size ≤ 1000000) :
    Calls Tryz.prog 177 #[.string s] w fun e w' => Gives (isPartB s) (.string s) e ∧ w' = w := by
  have cM := fun w => isMadeOf_any 220 M.partP (enters_of Tryz.func220 (by kernel_rfl) rfl) partK_any s 8 w hs
  have HI : Hid (isPartB s = (madeK M.partP 8 s && !(s.toList == [46]) && !(s.toList == [46, 46]))) := isPartB_is s
  by_cases hm : madeK M.partP 8 s = true
  · have cY := must_ok
    have cN := must_no
    by_cases h1 : (s.toList == [46]) = true
    · have HE : Hid (isPartB s = false) := by show _ = _; rw [HI.out, hm, h1]; rfl
      go_enter Tryz.func177, Tryz.ntmps177
      go_wp2_with (first | (go_at_call 208; refine (cM _).mono ?_; rintro e w' ⟨rfl, rfl⟩) | (go_at_call 83; refine (cY _).mono ?_; rintro e w' ⟨rfl, rfl⟩) | (go_at_call 83; refine (cN _).mono ?_; rintro e w' ⟨rfl, rfl⟩))
      exact ⟨rfl, gives_f HE.out rfl, rfl⟩
    · replace h1 : (s.toList == [46]) = false := by simpa using h1
      by_cases h2 : (s.toList == [46, 46]) = true
      · have HE : Hid (isPartB s = false) := by show _ = _; rw [HI.out, hm, h1, h2]; rfl
        go_enter Tryz.func177, Tryz.ntmps177
        go_wp2_with (first | (go_at_call 208; refine (cM _).mono ?_; rintro e w' ⟨rfl, rfl⟩) | (go_at_call 83; refine (cY _).mono ?_; rintro e w' ⟨rfl, rfl⟩) | (go_at_call 83; refine (cN _).mono ?_; rintro e w' ⟨rfl, rfl⟩))
        exact ⟨rfl, gives_f HE.out rfl, rfl⟩
      · replace h2 : (s.toList == [46, 46]) = false := by simpa using h2
        have HE : Hid (isPartB s = true) := by show _ = _; rw [HI.out, hm, h1, h2]; rfl
        clear cN
        go_enter Tryz.func177, Tryz.ntmps177
        go_wp2_with (first | (go_at_call 208; refine (cM _).mono ?_; rintro e w' ⟨rfl, rfl⟩) | (go_at_call 83; refine (cY _).mono ?_; rintro e w' ⟨rfl, rfl⟩))
        go_ret
        exact ⟨gives_t HE.out rfl, rfl⟩
  · replace hm : madeK M.partP 8 s = false := by simpa using hm
    have HE : Hid (isPartB s = false) := by show _ = _; rw [HI.out, hm]; rfl
    have cN := must_no
    go_enter Tryz.func177, Tryz.ntmps177
    go_wp2_with (first | (go_at_call 208; refine (cM _).mono ?_; rintro e w' ⟨rfl, rfl⟩) | (go_at_call 83; refine (cN _).mono ?_; rintro e w' ⟨rfl, rfl⟩))
    exact ⟨rfl, gives_f HE.out rfl, rfl⟩
end Go.Proofs.YtgnfknjopafngaaGreatDoor
namespace Go.Proofs.YtgnfknjopafngaaGreatDoor
open Go.RowKit
def signB (s : ByteArray) : Bool := s.toList == [60, 60] || s.toList == [60, 61] || s.toList == [61] || s.toList == [62, 61] || s.toList == [62, 62]
set_option maxHeartbeats 400000 in
theorem isSign_any (s : ByteArray) (w : World) :
    Calls Tryz.prog 216 #[.string s] w fun e w' => e = .returned (.bool (signB s)) ∧ w' = w := by
  have HE : Hid (signB s = (s.toList == [60, 60] || s.toList == [60, 61] || s.toList == [61] || s.toList == [62, 61] || s.toList == [62, 62])) := rfl
  by_cases h1 : (s.toList == [60, 60]) = true
  · have HE2 : Hid (signB s = true) := by show _ = _; rw [HE.out, h1]; rfl
    go_enter Tryz.func216, Tryz.ntmps216
    go_wp2
    go_ret
    exact ⟨ret_bool HE2.out.symm, rfl⟩
  replace h1 : (s.toList == [60, 60]) = false := by simpa using h1
  by_cases h2 : (s.toList == [60, 61]) = true
  · have HE2 : Hid (signB s = true) := by show _ = _; rw [HE.out, h1, h2]; rfl
    go_enter Tryz.func216, Tryz.ntmps216
    go_wp2
    go_ret
    exact ⟨ret_bool HE2.out.symm, rfl⟩
  replace h2 : (s.toList == [60, 61]) = false := by simpa using h2
  by_cases h3 : (s.toList == [61]) = true
  · have HE2 : Hid (signB s = true) := by show _ = _; rw [HE.out, h1, h2, h3]; rfl
    go_enter Tryz.func216, Tryz.ntmps216
    go_wp2
    go_ret
    exact ⟨ret_bool HE2.out.symm, rfl⟩
  replace h3 : (s.toList == [61]) = false := by simpa using h3
  by_cases h4 : (s.toList == [62, 61]) = true
  · have HE2 : Hid (signB s = true) := by show _ = _; rw [HE.out, h1, h2, h3, h4]; rfl
    go_enter Tryz.func216, Tryz.ntmps216
    go_wp2
    go_ret
    exact ⟨ret_bool HE2.out.symm, rfl⟩
  replace h4 : (s.toList == [62, 61]) = false := by simpa using h4
  by_cases h5 : (s.toList == [62, 62]) = true
  · have HE2 : Hid (signB s = true) := by show _ = _; rw [HE.out, h1, h2, h3, h4, h5]; rfl
    go_enter Tryz.func216, Tryz.ntmps216
    go_wp2
    go_ret
    exact ⟨ret_bool HE2.out.symm, rfl⟩
  replace h5 : (s.toList == [62, 62]) = false := by simpa using h5
  have HE2 : Hid (signB s = false) := by show _ = _; rw [HE.out, h1, h2, h3, h4, h5]; rfl
  go_enter Tryz.func216, Tryz.ntmps216
  go_wp2
  go_ret
  exact ⟨ret_bool HE2.out.symm, rfl⟩
end Go.Proofs.YtgnfknjopafngaaGreatDoor
namespace Go.Proofs.YtgnfknjopafngaaGreatDoor
namespace M
def linesS : List (List UInt8) → Nat → Pk → Sum Nat Pk
  | [], _, p => .inr p
  | l :: r, k, p => match lineS p k l with
    | none => .inl (k + 1)
    | some q => linesS r (k + 1) q
def emptyPk : Pk := ⟨[], [], [], [], []⟩
def swapAt {α : Type} (l : List α) (k : Nat) : List α := match l[k]?, l[k + 1]? with
  | some x, some y => (l.set (k + 1) x).set k y
  | _, _ => l
def bub : Nat → List Fl → List Fl
  | 0, l => l
  | k + 1, l => match l[k]?, l[k + 1]? with
    | some x, some y => if Op.bytesLess y.path x.path = true then bub k (swapAt l k) else l
    | _, _ => l
def srt : Nat → Nat → List Fl → List Fl
  | 0, _, l => l
  | m + 1, i, l => if i < l.length then srt m (i + 1) (bub i l) else l
def sortF (l : List Fl) : List Fl := srt l.length 1 l
def trimS (s : List UInt8) : List UInt8 := if s.getLast? = some 10 then s.dropLast else s
def readS (s : List UInt8) : Sum Nat Pk :=
  if 300 < s.length then .inl 0
  else match linesS (cutS (trimS s) [10]) 0 emptyPk with
    | .inl n => .inl n
    | .inr p => .inr { p with files := sortF p.files }
theorem swapAt_len {α : Type} (l : List α) (k : Nat) : (swapAt l k).length = l.length := by unfold swapAt; split <;> simp
theorem bub_len : ∀ (k : Nat) (l : List Fl), (bub k l).length = l.length
  | 0, l => rfl
  | k + 1, l => by
    unfold bub
    split
    · split
      · rw [bub_len k, swapAt_len]
      · rfl
    · rfl
theorem linesS_snoc {l : List (List UInt8)} : ∀ (k : Nat) (p : Pk) (s : List UInt8) (r : List (List UInt8)) (q : Pk), linesS l k p = .inr q → linesS (l ++ s :: r) k p = (match lineS q (k + l.length) s with | none => .inl (k + l.length + 1) | some q' => linesS r (k + l.length + 1) q') := by
  induction l with
  | nil => intro k p s r q h; simp only [linesS, Sum.inr.injEq] at h; subst h; rfl
  | cons a l ih =>
    intro k p s r q h
    simp only [linesS, List.cons_append] at h ⊢
    cases hp : lineS p k a with
    | none => rw [hp] at h; cases h
    | some p' =>
      rw [hp] at h
      show linesS (l ++ s :: r) (k + 1) p' = _
      rw [ih (k + 1) p' s r q h, List.length_cons, show k + 1 + l.length = k + (l.length + 1) by omega]
def chText (c : Ch) : List UInt8 := if c.sign = [] then c.name else c.name ++ [32, 40] ++ c.sign ++ [32] ++ c.ver ++ [41]
def joinS (sep : List UInt8) : List (List UInt8) → List UInt8
  | [] => []
  | [x] => x
  | x :: y :: r => x ++ sep ++ joinS sep (y :: r)
theorem joinS_snoc (sep : List UInt8) : ∀ (l : List (List UInt8)) (x : List UInt8), l ≠ [] → joinS sep (l ++ [x]) = joinS sep l ++ sep ++ x
  | [], _, h => absurd rfl h
  | [a], x, _ => by simp [joinS]
  | a :: b :: r, x, _ => by
    have ih := joinS_snoc sep (b :: r) x (by simp)
    simp only [List.cons_append, joinS] at ih ⊢
    rw [ih]
    simp [List.append_assoc]
def printedS (sep : List UInt8) (l : List Ch) : List UInt8 := joinS sep (l.map chText)
def needsText (l : List (List Ch)) : List UInt8 := if l = [] then [] else [10, 110, 101, 101, 100, 115, 32] ++ joinS [44, 32] (l.map (printedS [32, 124, 32]))
def barsText (l : List Ch) : List UInt8 := if l = [] then [] else [10, 98, 97, 114, 115, 32] ++ printedS [44, 32] l
def fileText (f : Fl) : List UInt8 := [10, 102, 105, 108, 101, 32] ++ f.path ++ [61] ++ f.content
def printS (p : Pk) : List UInt8 := [112, 97, 99, 107, 97, 103, 101, 32] ++ p.name ++ [32] ++ p.ver ++ needsText p.needs ++ barsText p.bars ++ p.files.flatMap fileText
end M
end Go.Proofs.YtgnfknjopafngaaGreatDoor
