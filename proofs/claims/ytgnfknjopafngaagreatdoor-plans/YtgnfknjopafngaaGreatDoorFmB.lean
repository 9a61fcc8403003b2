import Derived.Test.YtgnfknjopafngaaGreatDoorProg
import Derived.Test.YtgnfknjopafngaaGreatDoorFmA
import Derived.WalkKit
import Derived.WalkSpells
import Derived.WalkLawsBesides
import Derived.WalkSmall
import Derived.Lib.Walk
import Derived.Lib.Bytealg
import Derived.Lib.Strings
import Derived.Lib.IndexBytes
import Derived.Deep.DeepMust
import Derived.Deep.QuietTactic
import Derived.BigQuiet
import Derived.Shelf.Abstract
/-
  SMALL LAWS FOR ALL WALKS: results, strings' bytes, worlds.
-/
namespace Go.Proofs.YtgnfknjopafngaaGreatDoor
open Go.RowKit

theorem ret_bool {a b : Bool} (h : a = b) : Ending.returned (.bool a) = .returned (.bool b) := by rw [h]
theorem ret_int {k : IntKind} {a b : Int} (h : a = b) : Ending.returned (.int k a) = .returned (.int k b) := by rw [h]
theorem ret_str {a b : ByteArray} (h : a = b) : Ending.returned (.string a) = .returned (.string b) := by rw [h]

theorem bytes_of {s t : ByteArray} (h : s.data.toList = t.data.toList) : s = t := by
  obtain ⟨⟨a⟩⟩ := s; obtain ⟨⟨b⟩⟩ := t
  simp at h; rw [h]
theorem mk_toList (l : List UInt8) : (ByteArray.mk l.toArray).data.toList = l := rfl
theorem ext_from (s : ByteArray) (k : Nat) : (s.extract k s.size).data.toList = s.data.toList.drop k := Lib.extract_to_end s k
theorem ext_upto (s : ByteArray) (k : Nat) : (s.extract 0 k).data.toList = s.data.toList.take k := by rw [Lib.extract_data]; simp
theorem ext_size (s : ByteArray) (i j : Nat) : (s.extract i j).size ≤ s.size := by simp; omega
def lenOf : Value → Nat
  | .string t => t.size
  | _ => 0

/-- A quiet callee, inside a region that draws, where draws have gone ahead. -/
theorem quiet_add {P : Program} {f : FuncId} {args : Array Value} {w : World} {n k : Nat} {v : Value}
    (h : Calls P f args (w.drewN (n + k)) fun e w' => e = .returned v ∧ w' = w.drewN (n + k)) : Calls P f args (w.drewN (n + k)) fun e w'' => e = .returned v ∧ ∃ m, w'' = w.drewN (n + m) :=
  h.mono fun _ _ ⟨he, hm⟩ => ⟨he, k, hm⟩

theorem drewN_add (w : World) (n k : Nat) : (w.drewN n).drewN k = w.drewN (n + k) := by simp [World.drewN, Nat.add_assoc]
theorem below_same (w : World) (n : Nat) : Below w.heap.size w (w.drewN n) := below_drewN (Below.refl _ _) n
theorem bt {w wr w' : World} (h : Below w.heap.size w wr) (k : Below wr.heap.size wr w') : Below w.heap.size w w' := h.trans (k.mono h.size)
theorem bt_n {w wr : World} (h : Below w.heap.size w wr) (n : Nat) : Below w.heap.size w (wr.drewN n) := below_drewN h n

/-- The one cell of a new block. -/
theorem one_new (w : World) (x : Value) (t : TypeId) : ∀ j u, [x][j]? = some u → (w.alloc (.cells #[x] t)).cell? ((⟨w.heap.size, 0, none⟩ : Addr).add j) = some u := by
  intro j u hj
  cases j with
  | zero => simp at hj; subst hj; simp [Addr.add]
  | succ j => simp at hj
/-- What an append onto a row of the call's own leaves of old memory. -/
theorem below_push {B e size n : Nat} {w wr w1 : World} {v : Value} {xs : List Value} {o : Obj} (hB : Below B w wr) (hb : B ≤ wr.heap.size) (hown : wr.ownsRow B e size v n xs) (hg : (wr.alloc o).grownBy w1 v.ownBlock) : Below B w w1 :=
  (hB.alloc hb o).grown hg (by simp; omega) (fun k hk => (hown.lt k hk).1)
/-- Behind a contract that ends in 'Below': all old cells and marks read as before. -/
theorem bcell {W w1 : World} (hb : Below W.heap.size W w1) : (∀ b o, b < W.heap.size → w1.cell? ⟨b, o, none⟩ = W.cell? ⟨b, o, none⟩) ∧ (∀ b o, b < W.heap.size → w1.frozen? ⟨b, o, none⟩ = W.frozen? ⟨b, o, none⟩) :=
  ⟨fun b o h => hb.cell (p := ⟨b, o, none⟩) h, fun b o h => hb.frozen (p := ⟨b, o, none⟩) h⟩
end Go.Proofs.YtgnfknjopafngaaGreatDoor
/-
  THE DOCUMENT's ANSWER: in.
-/
namespace Go.Proofs.YtgnfknjopafngaaGreatDoor
open Go.RowKit

theorem at_eq (s t : ByteArray) (k : Nat) : ((t.extract k (k + s.size)).toList == s.toList) = M.at' s.data.toList t.data.toList k := by
  unfold M.at'
  rw [Lib.toList_data, Lib.toList_data, Lib.extract_data]
  simp

set_option maxHeartbeats 1000000 in
theorem in_any (s t : ByteArray) (w : World) (hs : s.size + t.size ≤ 4611686018427387904) :
    Calls Tryz.prog 102 #[.string s, .string t] w fun e w' => e = .returned (.bool (M.inn s.data.toList t.data.toList)) ∧ w' = w := by
  go_enter Tryz.func102, Tryz.ntmps102
  go_wp2
  go_loop [5] (fun i => ∃ k : Nat, k ≤ t.size + 1 ∧ i = .int .i64 k ∧ ∀ j, j < k → M.at' s.data.toList t.data.toList j = false) (fun i => t.size + 1 - (intOf i).toNat)
  case atStart => exact ⟨0, Nat.zero_le _, rfl, fun j h => by omega⟩
  case round =>
    obtain ⟨k, hk1, rfl, ha⟩ := hrel
    have HA : Hid (∀ j, j < k → M.at' s.data.toList t.data.toList j = false) := ha
    clear ha
    by_cases hlt : k + s.size ≤ t.size
    · by_cases hm : ((t.extract k (k + s.size)).toList == s.toList) = true
      · have HM : Hid (((t.extract k (k + s.size)).toList == s.toList) = true) := hm
        go_wp2
        go_ret
        exact ⟨ret_bool (M.inn_yes (k := k) (by simpa using hlt) (by rw [← at_eq]; exact HM.out)).symm, rfl⟩
      · have hm' : ((t.extract k (k + s.size)).toList == s.toList) = false := by simpa using hm
        clear hm
        have HM : Hid (((t.extract k (k + s.size)).toList == s.toList) = false) := hm'
        go_wp2
        go_round
        case rel =>
          refine ⟨k + 1, by omega, by go_num, fun j hj => ?_⟩
          by_cases hjk : j < k
          · exact HA.out j hjk
          · obtain rfl : j = k := by omega
            rw [← at_eq]; exact HM.out
        case measure => simp [intOf]; omega
    · go_wp2
      go_ret
      exact ⟨ret_bool (M.inn_no HA.out (by simp; omega)).symm, rfl⟩

end Go.Proofs.YtgnfknjopafngaaGreatDoor
/-
  THE DOCUMENT's ANSWER, WALKED: made, isName, isVersion, begins, over.
-/
namespace Go.Proofs.YtgnfknjopafngaaGreatDoor
open Go.RowKit

theorem one_byte (s : ByteArray) (k : Nat) (h : k < s.size) : (s.extract k (k + 1)).data.toList = [s[k]] := by
  have h' : k < s.data.toList.length := by simpa using h
  rw [Lib.extract_data, List.drop_eq_getElem_cons h']
  simp
  rfl

def madeB (p : Int → Bool) (least most : Nat) (s : ByteArray) : Bool := M.made p least most s.data.toList

theorem all_pre {p : Int → Bool} {l : List UInt8} (h : ∀ j (hj : j < l.length), p (l[j]).toNat = true) : l.all (fun b => p b.toNat) = true := by
  rw [List.all_eq_true]
  intro b hb
  obtain ⟨j, hj, rfl⟩ := List.getElem_of_mem hb
  exact h j hj
theorem all_not {p : Int → Bool} {l : List UInt8} {k : Nat} (hk : k < l.length) (h : p (l[k]).toNat = false) : l.all (fun b => p b.toNat) = false := by
  rw [List.all_eq_false]
  exact ⟨l[k], List.getElem_mem hk, by rw [h]; decide⟩

set_option maxHeartbeats 1000000 in
theorem made_any (t : ByteArray) (p : Int → Bool) (hset : Hid (∀ b : UInt8, t.data.toList.contains b = p b.toNat)) (least most : Int) (hm : 0 ≤ most) (hm2 : most ≤ 100) (ht : t.size ≤ 1000) (s : ByteArray) (w : World) (hs : s.size ≤ 1000000) :
    Calls Tryz.prog 101 #[.string s, .string t, .int .i64 least, .int .i64 most] w fun e w' => e = .returned (.bool (madeB p least.toNat most.toNat s)) ∧ w' = w := by
  go_enter Tryz.func101, Tryz.ntmps101
  go_wp2
  go_loop [9, 10] (fun i _ => ∃ k : Nat, k ≤ s.size ∧ i = .int .i64 k ∧ Hid (∀ j (h : j < s.data.toList.length), j < k → p (s.data.toList[j]).toNat = true)) (fun i _ => s.size - (intOf i).toNat)
  case atStart => exact ⟨0, Nat.zero_le _, rfl, fun j _ h => by omega⟩
  case round =>
    obtain ⟨k, hk1, rfl, HA⟩ := hrel
    by_cases hlt : k < s.size
    · have hin : M.inn (s.extract k (k + 1)).data.toList t.data.toList = p s[k].toNat := by rw [one_byte s k hlt, M.inn_one]; exact hset.out _
      have cI : ∀ wx, Calls Tryz.prog 102 #[.string (s.extract k (k + 1)), .string t] wx fun e w' => e = .returned (.bool (p s[k].toNat)) ∧ w' = wx := fun wx => by
        rw [← hin]; exact in_any _ t wx (by have := ext_size s k (k + 1); omega)
      clear hin
      by_cases hp : p s[k].toNat = true
      · go_wp2_with (go_at_call 102; refine (cI _).mono ?_; rintro e w' ⟨rfl, rfl⟩)
        go_round
        case rel =>
          refine ⟨k + 1, by omega, by go_num, fun j hj hjk => ?_⟩
          by_cases hjk' : j < k
          · exact HA.out j hj hjk'
          · obtain rfl : j = k := by omega
            exact hp
        case measure => simp [intOf]; omega
      · have hp' : p s[k].toNat = false := by simpa using hp
        have HP : Hid (p s[k].toNat = false) := hp'
        clear hp
        go_wp2_with (go_at_call 102; refine (cI _).mono ?_; rintro e w' ⟨rfl, rfl⟩)
        go_ret
        exact ⟨ret_bool (by unfold madeB M.made; rw [all_not (by simpa using hlt) HP.out]; rfl), rfl⟩
    · have HF : Hid (s.data.toList.all (fun b => p b.toNat) = true) := all_pre fun j hj => HA.out j hj (by simp at hj; omega)
      by_cases h1 : least ≤ s.size
      · by_cases h2 : (s.size : Int) ≤ most
        · go_wp2
          go_ret
          exact ⟨ret_bool (by unfold madeB M.made; rw [HF.out]; simp; omega), rfl⟩
        · go_wp2
          go_ret
          exact ⟨ret_bool (by unfold madeB M.made; rw [HF.out]; simp; omega), rfl⟩
      · go_wp2
        go_ret
        exact ⟨ret_bool (by unfold madeB M.made; rw [HF.out]; simp; omega), rfl⟩

def smallT : ByteArray := ⟨#[97, 98, 99, 100, 101, 102, 103, 104, 105, 106, 107, 108, 109, 110, 111, 112, 113, 114, 115, 116, 117, 118, 119, 120, 121, 122]⟩
def digitT : ByteArray := ⟨#[48, 49, 50, 51, 52, 53, 54, 55, 56, 57]⟩
def nameT : ByteArray := ⟨#[97, 98, 99, 100, 101, 102, 103, 104, 105, 106, 107, 108, 109, 110, 111, 112, 113, 114, 115, 116, 117, 118, 119, 120, 121, 122, 48, 49, 50, 51, 52, 53, 54, 55, 56, 57, 45]⟩
def verT : ByteArray := ⟨#[97, 98, 99, 100, 101, 102, 103, 104, 105, 106, 107, 108, 109, 110, 111, 112, 113, 114, 115, 116, 117, 118, 119, 120, 121, 122, 65, 66, 67, 68, 69, 70, 71, 72, 73, 74, 75, 76, 77, 78, 79, 80, 81, 82, 83, 84, 85, 86, 87, 88, 89, 90, 48, 49, 50, 51, 52, 53, 54, 55, 56, 57, 46, 43, 45, 126]⟩
def partT : ByteArray := ⟨#[97, 98, 99, 100, 101, 102, 103, 104, 105, 106, 107, 108, 109, 110, 111, 112, 113, 114, 115, 116, 117, 118, 119, 120, 121, 122, 48, 49, 50, 51, 52, 53, 54, 55, 56, 57, 46, 95]⟩
theorem set_all (t : List UInt8) (p : Int → Bool) (h : ∀ n : Nat, n < 256 → t.contains (UInt8.ofNat n) = p n) (b : UInt8) : t.contains b = p b.toNat := by
  have := h b.toNat b.toNat_lt
  rwa [UInt8.ofNat_toNat] at this
theorem small_set : Hid (∀ b : UInt8, smallT.data.toList.contains b = M.isSm b.toNat) := set_all _ _ (by decide +kernel)
theorem digit_set : Hid (∀ b : UInt8, digitT.data.toList.contains b = M.isD b.toNat) := set_all _ _ (by decide +kernel)
theorem name_set : Hid (∀ b : UInt8, nameT.data.toList.contains b = M.nameP b.toNat) := set_all _ _ (by decide +kernel)
theorem ver_set : Hid (∀ b : UInt8, verT.data.toList.contains b = M.verP b.toNat) := set_all _ _ (by decide +kernel)
theorem part_set : Hid (∀ b : UInt8, partT.data.toList.contains b = M.partP b.toNat) := set_all _ _ (by decide +kernel)

def isNameB (s : ByteArray) : Bool := M.isNameS s.data.toList
def isVerB (s : ByteArray) : Bool := M.isVerS s.data.toList

theorem headP_of {p : Int → Bool} {l : List UInt8} (h : 0 < l.length) : p l[0].toNat = M.headP p l := by
  cases l with
  | nil => simp at h
  | cons b r => simp [M.headP]
theorem head_in (s t : ByteArray) (p : Int → Bool) (hset : ∀ b : UInt8, t.data.toList.contains b = p b.toNat) (h : 0 < s.size) : M.inn (s.extract 0 1).data.toList t.data.toList = M.headP p s.data.toList := by
  rw [one_byte s 0 h, M.inn_one, hset]
  have h' : 0 < s.data.toList.length := by simpa using h
  exact headP_of h'

set_option maxRecDepth 100000 in
set_option maxHeartbeats 1000000 in
theorem isName_any (s : ByteArray) (w : World) (hs : s.size ≤ 1000000) :
    Calls Tryz.prog 59 #[.string s] w fun e w' => e = .returned (.bool (isNameB s)) ∧ w' = w := by
  have cM : ∀ wx, Calls Tryz.prog 101 #[.string s, .string nameT, .int .i64 1, .int .i64 12] wx fun e w' => e = .returned (.bool (madeB M.nameP 1 12 s)) ∧ w' = wx := fun wx =>
    made_any nameT M.nameP name_set 1 12 (by decide) (by decide) (by decide) s wx hs
  by_cases h1 : madeB M.nameP 1 12 s = true
  · have h0 : 0 < s.size := by unfold madeB M.made at h1; simp at h1; omega
    have cI : ∀ wx, Calls Tryz.prog 102 #[.string (s.extract 0 1), .string smallT] wx fun e w' => e = .returned (.bool (M.headP M.isSm s.data.toList)) ∧ w' = wx := fun wx => by
      rw [← head_in s smallT M.isSm small_set.out h0]; exact in_any _ _ wx (by have := ext_size s 0 1; have : smallT.size = 26 := rfl; omega)
    go_enter Tryz.func59, Tryz.ntmps59
    go_wp2_with (first | (go_at_call 101; refine (cM _).mono ?_; rintro e w' ⟨rfl, rfl⟩) | (go_at_call 102; refine (cI _).mono ?_; rintro e w' ⟨rfl, rfl⟩))
    go_ret
    exact ⟨ret_bool (by unfold isNameB M.isNameS; unfold madeB at h1; rw [h1]; rfl), rfl⟩
  · have h1' : madeB M.nameP 1 12 s = false := by simpa using h1
    clear h1
    go_enter Tryz.func59, Tryz.ntmps59
    go_wp2_with (first | (go_at_call 101; refine (cM _).mono ?_; rintro e w' ⟨rfl, rfl⟩))
    go_ret
    exact ⟨ret_bool (by unfold isNameB M.isNameS; unfold madeB at h1'; rw [h1']; rfl), rfl⟩

set_option maxRecDepth 100000 in
set_option maxHeartbeats 1000000 in
theorem isVersion_any (s : ByteArray) (w : World) (hs : s.size ≤ 1000000) :
    Calls Tryz.prog 60 #[.string s] w fun e w' => e = .returned (.bool (isVerB s)) ∧ w' = w := by
  have cM : ∀ wx, Calls Tryz.prog 101 #[.string s, .string verT, .int .i64 1, .int .i64 16] wx fun e w' => e = .returned (.bool (madeB M.verP 1 16 s)) ∧ w' = wx := fun wx =>
    made_any verT M.verP ver_set 1 16 (by decide) (by decide) (by decide) s wx hs
  by_cases h1 : madeB M.verP 1 16 s = true
  · have h0 : 0 < s.size := by unfold madeB M.made at h1; simp at h1; omega
    have cI : ∀ wx, Calls Tryz.prog 102 #[.string (s.extract 0 1), .string digitT] wx fun e w' => e = .returned (.bool (M.headP M.isD s.data.toList)) ∧ w' = wx := fun wx => by
      rw [← head_in s digitT M.isD digit_set.out h0]; exact in_any _ _ wx (by have := ext_size s 0 1; have : digitT.size = 10 := rfl; omega)
    go_enter Tryz.func60, Tryz.ntmps60
    go_wp2_with (first | (go_at_call 101; refine (cM _).mono ?_; rintro e w' ⟨rfl, rfl⟩) | (go_at_call 102; refine (cI _).mono ?_; rintro e w' ⟨rfl, rfl⟩))
    go_ret
    exact ⟨ret_bool (by unfold isVerB M.isVerS; unfold madeB at h1; rw [h1]; rfl), rfl⟩
  · have h1' : madeB M.verP 1 16 s = false := by simpa using h1
    clear h1
    go_enter Tryz.func60, Tryz.ntmps60
    go_wp2_with (first | (go_at_call 101; refine (cM _).mono ?_; rintro e w' ⟨rfl, rfl⟩))
    go_ret
    exact ⟨ret_bool (by unfold isVerB M.isVerS; unfold madeB at h1'; rw [h1']; rfl), rfl⟩

def beginsB (s t : ByteArray) : Bool := M.begins s.data.toList t.data.toList
set_option maxHeartbeats 1000000 in
theorem begins_any (s t : ByteArray) (w : World) :
    Calls Tryz.prog 61 #[.string s, .string t] w fun e w' => e = .returned (.bool (beginsB s t)) ∧ w' = w := by
  have e : beginsB s t = (decide (t.size ≤ s.size) && ((s.extract 0 t.size).toList == t.toList)) := by
    unfold beginsB M.begins
    rw [Lib.toList_data, Lib.toList_data, ext_upto]
    simp
  by_cases h1 : t.size ≤ s.size
  · have HE : Hid (beginsB s t = ((s.extract 0 t.size).toList == t.toList)) := by show _ = _; rw [e]; simp [h1]
    clear e
    go_enter Tryz.func61, Tryz.ntmps61
    go_wp2
    go_ret
    exact ⟨ret_bool HE.out.symm, rfl⟩
  · have HE : Hid (beginsB s t = false) := by show _ = _; rw [e]; simp [h1]
    clear e
    go_enter Tryz.func61, Tryz.ntmps61
    go_wp2
    go_ret
    exact ⟨ret_bool HE.out.symm, rfl⟩

def overB (a b : ByteArray) : Bool := M.over a.data.toList b.data.toList
set_option maxHeartbeats 1000000 in
theorem over_any (a b : ByteArray) (w : World) (ha : a.size ≤ 1000000) :
    Calls Tryz.prog 64 #[.string a, .string b] w fun e w' => e = .returned (.bool (overB a b)) ∧ w' = w := by
  go_enter Tryz.func64, Tryz.ntmps64
  go_wp2_with (go_at_call 61; refine (begins_any _ _ _).mono ?_; rintro e w' ⟨rfl, rfl⟩)
  go_ret
  refine ⟨ret_bool ?_, rfl⟩
  unfold beginsB overB M.over
  rw [ByteArray.data_append]; simp
end Go.Proofs.YtgnfknjopafngaaGreatDoor
/-
  THE DOCUMENT's ANSWER, WALKED: cut.
-/
namespace Go.Proofs.YtgnfknjopafngaaGreatDoor
open Go.RowKit

theorem infoStr : (Tryz.prog.info? 9).map (fun i => (i.zero, i.size, i.bytes)) = some (some (.string ⟨#[]⟩), 1, 16) := by kernel_rfl

def strV (l : List UInt8) : Value := .string ⟨l.toArray⟩
def cutB (s sep : ByteArray) : List (List UInt8) := M.cutS s.data.toList sep.data.toList
theorem strV_ext (s : ByteArray) (a b : Nat) : Value.string (s.extract a b) = strV ((s.data.toList.drop a).take (b - a)) := by unfold strV; rw [Lib.extract_eq]
theorem strV_one (l : List (List UInt8)) : ∀ u ∈ l.map strV, u.oneCell' = true := by
  intro u hu; obtain ⟨x, _, rfl⟩ := List.mem_map.mp hu; rfl

/-- What cut has gathered when it stands at a place. -/
def cutRel (s sep : ByteArray) (os : List (List UInt8)) (from' i : Nat) : Prop :=
  from' ≤ i ∧ i ≤ s.size ∧ os.length ≤ i ∧ cutB s sep = os ++ M.cutA sep.data.toList (s.size - i) ((s.data.toList.drop from').take (i - from')) (s.data.toList.drop i)

theorem cutRel_start (s sep : ByteArray) : cutRel s sep [] 0 0 := ⟨Nat.le_refl _, Nat.zero_le _, Nat.zero_le _, by unfold cutB M.cutS; simp⟩
theorem cutRel_hit {s sep : ByteArray} {os : List (List UInt8)} {f i : Nat} (h : cutRel s sep os f i) (hs : 0 < sep.size) (hi : i + sep.size ≤ s.size) (ht : ((s.extract i (i + sep.size)).toList == sep.toList) = true) :
    cutRel s sep (os ++ [(s.data.toList.drop f).take (i - f)]) (i + sep.size) (i + sep.size) := by
  obtain ⟨h1, h2, h3, h4⟩ := h
  have hs' : 0 < sep.data.toList.length := by simpa using hs
  rw [Lib.toList_data, Lib.toList_data, Lib.extract_data, beq_iff_eq] at ht
  have e : i + sep.size - i = sep.data.toList.length := by simp
  rw [e] at ht
  refine ⟨Nat.le_refl _, by omega, by simp; omega, ?_⟩
  rw [h4, M.cutA_hit hs' _ (s.size - (i + sep.size)) _ _ (by simp) (by simp only [List.length_drop, Array.length_toList, ByteArray.size_data]; omega) (by simp; omega) ht]
  simp [List.drop_drop]
theorem cutRel_miss {s sep : ByteArray} {os : List (List UInt8)} {f i : Nat} (h : cutRel s sep os f i) (hs : 0 < sep.size) (hi : i + sep.size ≤ s.size) (ht : ((s.extract i (i + sep.size)).toList == sep.toList) = false) :
    cutRel s sep os f (i + 1) := by
  obtain ⟨h1, h2, h3, h4⟩ := h
  have hs' : 0 < sep.data.toList.length := by simpa using hs
  rw [Lib.toList_data, Lib.toList_data, Lib.extract_data, beq_eq_false_iff_ne] at ht
  have e : i + sep.size - i = sep.data.toList.length := by simp
  rw [e] at ht
  refine ⟨by omega, by omega, by omega, ?_⟩
  rw [h4, M.cutA_miss hs' _ (s.size - (i + 1)) _ _ (by simp) (by simp only [List.length_drop, Array.length_toList, ByteArray.size_data]; omega) (by simp; omega) ht]
  have e2 : (s.data.toList.drop f).take (i + 1 - f) = (s.data.toList.drop f).take (i - f) ++ (s.data.toList.drop i).take 1 := by
    rw [show i + 1 - f = (i - f) + 1 by omega, List.take_add, List.drop_drop, show f + (i - f) = i by omega]
  rw [e2, List.drop_drop]
theorem cutRel_end {s sep : ByteArray} {os : List (List UInt8)} {f i : Nat} (h : cutRel s sep os f i) (hi : s.size < i + sep.size) :
    cutB s sep = os ++ [s.data.toList.drop f] := by
  obtain ⟨h1, h2, h3, h4⟩ := h
  rw [h4, M.cutA_stop _ _ _ (by simp; omega)]
  congr 2
  conv => rhs; rw [← List.take_append_drop (i - f) (s.data.toList.drop f)]
  rw [List.drop_drop, show f + (i - f) = i by omega]

set_option maxRecDepth 100000 in
set_option maxHeartbeats 1000000 in
theorem cut_any (s sep : ByteArray) (w : World) (hs : 0 < sep.size) (hl : s.size ≤ 1000000) (hl2 : sep.size ≤ 1000) :
    Calls Tryz.prog 36 #[.string s, .string sep] w fun e w' => ∃ v, e = .returned v ∧ w'.ownsRow w.heap.size 9 1 v (cutB s sep).length ((cutB s sep).map strV) ∧ Below w.heap.size w w' := by
  obtain ⟨i0, hi0, hz0, hz1, hz2⟩ := info_parts infoStr
  go_enter Tryz.func36, Tryz.ntmps36
  go_wp2
  go_loopw [5, 6, 7] (fun v f i wr => ∃ (os : List (List UInt8)) (fn k : Nat), f = .int .i64 fn ∧ i = .int .i64 k ∧ wr.ownsRow w.heap.size 9 1 v os.length (os.map strV) ∧ Below w.heap.size w wr ∧ fn ≤ k ∧ k ≤ s.size ∧ os.length ≤ k ∧ Hid (cutRel s sep os fn k)) (fun _ _ i _ => s.size - (intOf i).toNat)
  case atStart => exact ⟨[], 0, 0, rfl, rfl, World.ownsRow_nil _ _ _ _, Below.refl _ _, Nat.le_refl _, Nat.zero_le _, Nat.zero_le _, cutRel_start s sep⟩
  case round =>
    obtain ⟨os, fn, k, rfl, rfl, hown, hB, hfk, hks, hok, HR⟩ := hrel
    have hsz := hB.size
    by_cases hlt : k + sep.size ≤ s.size
    · by_cases hm : ((s.extract k (k + sep.size)).toList == sep.toList) = true
      · have HM : Hid (((s.extract k (k + sep.size)).toList == sep.toList) = true) := hm
        go_wp2_with (at_builtin; refine wpList_append_own _ rfl _ _ 43 rfl w.heap.size 9 i0 (.string ⟨#[]⟩) 1 16 Tryz.underlying43 hi0 hz0 hz1 hz2 rfl (by decide) _ _ _ rfl (hown.alloc _) ⟨wr.heap.size, 0, none⟩ 1 1 [.string (s.extract fn k)] rfl rfl ?c1 ?c2 ?c3 ?c4 ?c5 ?_)
        case c1 => exact one_new _ _ _
        case c2 => intro u hu; simp at hu; subst hu; rfl
        case c3 => unfold maxLen; omega
        case c4 => omega
        case c5 => simp; omega
        intro v' w1 hown' hgrow _
        have R1 : w1.ownsRow w.heap.size 9 1 v' (os ++ [(s.data.toList.drop fn).take (k - fn)]).length ((os ++ [(s.data.toList.drop fn).take (k - fn)]).map strV) := by
          rw [strV_ext] at hown'; simpa using hown'
        have R2 := below_push hB hsz hown hgrow
        clear hown' hgrow hown
        go_wp2
        go_roundw
        case rel => exact ⟨_, k + sep.size, k + sep.size, by go_num, by go_num, R1, R2, Nat.le_refl _, hlt, by simp; omega, cutRel_hit HR.out hs hlt HM.out⟩
        case measure => simp [intOf]; omega
      · have hm' : ((s.extract k (k + sep.size)).toList == sep.toList) = false := by simpa using hm
        have HM : Hid (((s.extract k (k + sep.size)).toList == sep.toList) = false) := hm'
        clear hm
        go_wp2
        go_roundw
        case rel => exact ⟨_, fn, k + 1, rfl, by go_num, hown, hB, by omega, by omega, by omega, cutRel_miss HR.out hs hlt HM.out⟩
        case measure => simp [intOf]; omega
    · go_wp2_with (at_builtin; refine wpList_append_own _ rfl _ _ 43 rfl w.heap.size 9 i0 (.string ⟨#[]⟩) 1 16 Tryz.underlying43 hi0 hz0 hz1 hz2 rfl (by decide) _ _ _ rfl (hown.alloc _) ⟨wr.heap.size, 0, none⟩ 1 1 [.string (s.extract fn s.size)] rfl rfl ?c1 ?c2 ?c3 ?c4 ?c5 ?_)
      case c1 => exact one_new _ _ _
      case c2 => intro u hu; simp at hu; subst hu; rfl
      case c3 => unfold maxLen; omega
      case c4 => omega
      case c5 => simp; omega
      intro v' w1 hown' hgrow _
      have HE : Hid (cutB s sep = os ++ [s.data.toList.drop fn]) := cutRel_end HR.out (by omega)
      have R1 : w1.ownsRow w.heap.size 9 1 v' (cutB s sep).length ((cutB s sep).map strV) := by
        rw [HE.out]
        rw [strV_ext, List.take_of_length_le (by simp)] at hown'
        simpa using hown'
      have R2 := below_push hB hsz hown hgrow
      clear hown' hgrow hown HE
      go_wp2
      go_ret
      exact ⟨_, rfl, R1, R2⟩
end Go.Proofs.YtgnfknjopafngaaGreatDoor
