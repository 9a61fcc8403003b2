import Derived.Lib.Bytealg
import Derived.WalkKit
import Derived.WalkSpells
import Derived.WalkLawsBesides
import Derived.WalkSmall
import Derived.Lib.Walk
import Derived.Lib.Strings
import Derived.Lib.IndexBytes
import Derived.Deep.DeepMust
import Derived.Deep.QuietTactic
import Derived.BigQuiet
import Derived.Shelf.Abstract
import Derived.Test.YtgnfknjopafngaaGreatDoorProg
import Derived.RegionTactic
import Derived.BigRegion
import Derived.Deep.RegionLaw
namespace Go.Proofs.YtgnfknjopafngaaGreatDoor
namespace M
def isD (c : Int) : Bool := decide (48 ≤ c ∧ c ≤ 57)
def isNo (c : Int) : Bool := !isD c
def isSm (c : Int) : Bool := decide (97 ≤ c ∧ c ≤ 122)
def isLt (c : Int) : Bool := decide ((97 ≤ c ∧ c ≤ 122) ∨ (65 ≤ c ∧ c ≤ 90))
def cmpI (x y : Int) : Int := if x < y then -1 else if y < x then 1 else 0
def rk (c : Int) : Int := if c = 126 then -1 else if isLt c = true then c else 256 + c
def lead (p : Int → Bool) (l : List UInt8) : Nat := (l.takeWhile (fun b => p b.toNat)).length
theorem isD_t {c : Int} (h : 48 ≤ c) (k : c ≤ 57) : isD c = true := by unfold isD; simp; omega
theorem isD_f1 {c : Int} (h : c < 48) : isD c = false := by unfold isD; simp; omega
theorem isD_f2 {c : Int} (h : 57 < c) : isD c = false := by unfold isD; simp; omega
theorem lead_le (p : Int → Bool) (l : List UInt8) : lead p l ≤ l.length := by
  unfold lead; exact (List.takeWhile_sublist _).length_le
theorem lead_nil (p : Int → Bool) : lead p [] = 0 := rfl
theorem lead_cons (p : Int → Bool) (b : UInt8) (l : List UInt8) : lead p (b :: l) = if p b.toNat = true then lead p l + 1 else 0 := by
  unfold lead
  simp only [List.takeWhile_cons]
  by_cases h : p b.toNat = true <;> simp [h]
theorem lead_eq {p : Int → Bool} : ∀ {l : List UInt8} {k : Nat}, (∀ j (h : j < l.length), j < k → p (l[j]).toNat = true) → k ≤ l.length → (∀ (h : k < l.length), p (l[k]).toNat = false) → lead p l = k
  | [], k, _, hk, _ => by simp at hk; subst hk; rfl
  | b :: l, 0, _, _, hn => by
    rw [lead_cons]
    have := hn (by simp)
    simp at this
    simp [this]
  | b :: l, k + 1, ha, hk, hn => by
    rw [lead_cons]
    have h0 := ha 0 (by simp) (by omega)
    simp at h0
    rw [if_pos h0, lead_eq (l := l) (k := k) (fun j h hj => ha (j + 1) (by simpa using h) (by omega)) (by simpa using hk) (fun h => hn (by simpa using h))]
def at' (s t : List UInt8) (j : Nat) : Bool := (t.drop j).take s.length == s
def strip (l : List UInt8) : List UInt8 := l.dropWhile (fun b => b == 48)
end M
end Go.Proofs.YtgnfknjopafngaaGreatDoor
namespace Go.Proofs.YtgnfknjopafngaaGreatDoor
namespace M
def nameP (c : Int) : Bool := decide ((97 ≤ c ∧ c ≤ 122) ∨ (48 ≤ c ∧ c ≤ 57) ∨ c = 45)
def verP (c : Int) : Bool := decide ((97 ≤ c ∧ c ≤ 122) ∨ (65 ≤ c ∧ c ≤ 90) ∨ (48 ≤ c ∧ c ≤ 57) ∨ c = 46 ∨ c = 43 ∨ c = 45 ∨ c = 126)
def partP (c : Int) : Bool := decide ((97 ≤ c ∧ c ≤ 122) ∨ (48 ≤ c ∧ c ≤ 57) ∨ c = 46 ∨ c = 95)
def made (p : Int → Bool) (least most : Nat) (s : List UInt8) : Bool := s.all (fun b => p b.toNat) && (decide (least ≤ s.length) && decide (s.length ≤ most))
def headP (p : Int → Bool) (s : List UInt8) : Bool := match s with
  | [] => false
  | b :: _ => p b.toNat
def isNameS (s : List UInt8) : Bool := made nameP 1 12 s && headP isSm s
def isVerS (s : List UInt8) : Bool := made verP 1 16 s && headP isD s
def cutA (sep : List UInt8) : Nat → List UInt8 → List UInt8 → List (List UInt8)
  | 0, cur, rest => [cur ++ rest]
  | n + 1, cur, rest =>
    if rest.length < sep.length then [cur ++ rest]
    else if rest.take sep.length = sep then cur :: cutA sep n [] (rest.drop sep.length)
    else cutA sep n (cur ++ rest.take 1) (rest.drop 1)
def cutS (s sep : List UInt8) : List (List UInt8) := cutA sep s.length [] s
theorem cutA_any {sep : List UInt8} (hs : 0 < sep.length) : ∀ (n m : Nat) (cur rest : List UInt8), rest.length ≤ n → rest.length ≤ m → cutA sep n cur rest = cutA sep m cur rest
  | 0, 0, _, _, _, _ => rfl
  | 0, m + 1, cur, rest, hn, _ => by
    have : rest = [] := List.length_eq_zero_iff.mp (by omega)
    subst this
    simp only [cutA, List.length_nil]
    rw [if_pos hs]
  | n + 1, 0, cur, rest, _, hm => by
    have : rest = [] := List.length_eq_zero_iff.mp (by omega)
    subst this
    simp only [cutA, List.length_nil]
    rw [if_pos hs]
  | n + 1, m + 1, cur, rest, hn, hm => by
    simp only [cutA]
    by_cases h1 : rest.length < sep.length
    · rw [if_pos h1, if_pos h1]
    · rw [if_neg h1, if_neg h1]
      rw [cutA_any hs n m [] (rest.drop sep.length) (by simp; omega) (by simp; omega), cutA_any hs n m (cur ++ rest.take 1) (rest.drop 1) (by simp; omega) (by simp; omega)]
theorem cutA_stop {sep : List UInt8} (n : Nat) (cur rest : List UInt8) (h : rest.length < sep.length) : cutA sep n cur rest = [cur ++ rest] := by
  cases n with
  | zero => rfl
  | succ n => simp only [cutA]; rw [if_pos h]
theorem cutA_hit {sep : List UInt8} (hs : 0 < sep.length) (n m : Nat) (cur rest : List UInt8) (hn : rest.length ≤ n) (hm : (rest.drop sep.length).length ≤ m) (h : ¬ rest.length < sep.length) (h2 : rest.take sep.length = sep) :
    cutA sep n cur rest = cur :: cutA sep m [] (rest.drop sep.length) := by
  cases n with
  | zero => omega
  | succ n =>
    simp only [cutA]
    rw [if_neg h, if_pos h2, cutA_any hs n m _ _ (by simp; omega) hm]
theorem cutA_miss {sep : List UInt8} (hs : 0 < sep.length) (n m : Nat) (cur rest : List UInt8) (hn : rest.length ≤ n) (hm : (rest.drop 1).length ≤ m) (h : ¬ rest.length < sep.length) (h2 : ¬ rest.take sep.length = sep) :
    cutA sep n cur rest = cutA sep m (cur ++ rest.take 1) (rest.drop 1) := by
  cases n with
  | zero => omega
  | succ n =>
    simp only [cutA]
    rw [if_neg h, if_neg h2, cutA_any hs n m _ _ (by simp; omega) hm]
theorem cutA_len {sep : List UInt8} : ∀ (n : Nat) (cur rest : List UInt8), 0 < (cutA sep n cur rest).length ∧ (cutA sep n cur rest).length ≤ n + 1
  | 0, _, _ => by simp [cutA]
  | n + 1, cur, rest => by
    simp only [cutA]
    split
    · simp
    · split
      · have := cutA_len (sep := sep) n [] (rest.drop sep.length); simp; omega
      · have := cutA_len (sep := sep) n (cur ++ rest.take 1) (rest.drop 1); omega
theorem cutS_len (s sep : List UInt8) : 0 < (cutS s sep).length ∧ (cutS s sep).length ≤ s.length + 1 := cutA_len _ _ _
theorem cutA_mem {sep : List UInt8} : ∀ (n : Nat) (cur rest : List UInt8), ∀ x ∈ cutA sep n cur rest, x.length ≤ cur.length + rest.length
  | 0, cur, rest, x, hx => by simp [cutA] at hx; subst hx; simp
  | n + 1, cur, rest, x, hx => by
    simp only [cutA] at hx
    split at hx
    · simp at hx; subst hx; simp
    · split at hx
      · rcases List.mem_cons.mp hx with rfl | hx
        · omega
        · have := cutA_mem (sep := sep) n [] (rest.drop sep.length) x hx; simp at this; omega
      · have := cutA_mem (sep := sep) n (cur ++ rest.take 1) (rest.drop 1) x hx
        simp only [List.length_append, List.length_take, List.length_drop] at this; omega
theorem cutS_mem (s sep : List UInt8) (x : List UInt8) (h : x ∈ cutS s sep) : x.length ≤ s.length := by
  have := cutA_mem (sep := sep) s.length [] s x h; simpa using this
def begins (s t : List UInt8) : Bool := decide (t.length ≤ s.length) && (s.take t.length == t)
def over (a b : List UInt8) : Bool := begins b (a ++ [47])
structure Ch where
  name : List UInt8
  sign : List UInt8
  ver : List UInt8
structure Fl where
  path : List UInt8
  content : List UInt8
structure Pk where
  name : List UInt8
  ver : List UInt8
  needs : List (List Ch)
  bars : List Ch
  files : List Fl
def isSignP (p : List UInt8) : Bool := p == [40, 60, 60] || p == [40, 60, 61] || p == [40, 61] || p == [40, 62, 61] || p == [40, 62, 62]
def choiceS (s : List UInt8) : Option Ch := match cutS s [32] with
  | [p0] => if isNameS p0 = true then some ⟨s, [], []⟩ else none
  | [p0, p1, p2] =>
    if isNameS p0 = true ∧ 0 < p2.length ∧ isVerS (p2.take (p2.length - 1)) = true ∧ isSignP p1 = true ∧ (p2.drop (p2.length - 1) == [41]) = true then some ⟨p0, p1.drop 1, p2.take (p2.length - 1)⟩ else none
  | _ => none
def allS {α : Type} (f : List UInt8 → Option α) : List (List UInt8) → Option (List α)
  | [] => some []
  | s :: l => match f s with
    | none => none
    | some c => match allS f l with
      | none => none
      | some r => some (c :: r)
def choicesS (s sep : List UInt8) (most : Nat) : Option (List Ch) := match allS choiceS (cutS s sep) with
  | none => none
  | some l => if l.length ≤ most then some l else none
def isPathS (s : List UInt8) : Bool := (cutS s [47]).all (fun q => made partP 1 8 q && !(q == [46]) && !(q == [46, 46])) && decide ((cutS s [47]).length ≤ 3)
def fileS (s : List UInt8) : Option Fl :=
  if lead (fun c => decide (c ≠ 61)) s = s.length then none
  else if isPathS (s.take (lead (fun c => decide (c ≠ 61)) s)) = true ∧ s.length - lead (fun c => decide (c ≠ 61)) s - 1 ≤ 24 then
    some ⟨s.take (lead (fun c => decide (c ≠ 61)) s), s.drop (lead (fun c => decide (c ≠ 61)) s + 1)⟩
  else none
def needsW : List UInt8 := [110, 101, 101, 100, 115, 32]
def barsW : List UInt8 := [98, 97, 114, 115, 32]
def fileW : List UInt8 := [102, 105, 108, 101, 32]
def titleS (s : List UInt8) : Option (List UInt8 × List UInt8) := match cutS s [32] with
  | [a, b, c] => if (a == [112, 97, 99, 107, 97, 103, 101]) = true ∧ isNameS b = true ∧ isVerS c = true then some (b, c) else none
  | _ => none
def apart (f g : Fl) : Bool := !over f.path g.path && !over g.path f.path && !(f.path == g.path)
def groupS (s : List UInt8) : Option (List Ch) := choicesS s [32, 124, 32] 3
def lineS (p : Pk) (k : Nat) (s : List UInt8) : Option Pk :=
  if k = 0 then (match titleS s with
    | none => none
    | some (a, b) => some { p with name := a, ver := b })
  else if begins s needsW = true ∧ p.needs.length + p.bars.length + p.files.length = 0 then (match allS groupS (cutS (s.drop 6) [44, 32]) with
    | none => none
    | some l => if l.length ≤ 3 then some { p with needs := l } else none)
  else if begins s barsW = true ∧ p.bars.length + p.files.length = 0 then (match choicesS (s.drop 5) [44, 32] 3 with
    | none => none
    | some l => some { p with bars := l })
  else if begins s fileW = true ∧ p.files.length < 4 then (match fileS (s.drop 5) with
    | none => none
    | some f => if p.files.all (apart f) = true then some { p with files := p.files ++ [f] } else none)
  else none
end M
end Go.Proofs.YtgnfknjopafngaaGreatDoor
namespace Go.Proofs.YtgnfknjopafngaaGreatDoor
open Go.RowKit
theorem ret_bool {a b : Bool} (h : a = b) : Ending.returned (.bool a) = .returned (.bool b) := by rw [h]
theorem ret_int {k : IntKind} {a b : Int} (h : a = b) : Ending.returned (.int k a) = .returned (.int k b) := by rw [h]
theorem ret_str {a b : ByteArray} (h : a = b) : Ending.returned (.string a) = .returned (.string b) := by rw [h]
theorem bytes_of {s t : ByteArray} (h : s.data.toList = t.data.toList) : s = t := by
  obtain ⟨⟨a⟩⟩ := s; obtain ⟨⟨b⟩⟩ := t
  simp at h; rw [h]
theorem mk_toList (l : List UInt8) : (ByteArray.mk l.toArray).data.toList = l := rfl
theorem ext_from (s : ByteArray) (k : Nat) : (s.extract k s.size).data.toList = s.data.toList.drop k := Lib.extract_to_end s k
theorem ext_upto (s : ByteArray) (k : Nat) : (s.extract 0 k).data.toList = s.data.toList.take k := by rw [Lib.extract_data]; simp
theorem ext_size (s : ByteArray) (i j : Nat) : (s.extract i j).size ≤ s.size := by simp; omega
def lenOf : Value → Nat
  | .string t => t.size
  | _ => 0
theorem quiet_add {P : Program} {f : FuncId} {args : Array Value} {w : World} {n k : Nat} {v : Value}
    (h : Calls P f args (w.drewN (n + k)) fun e w' => e = .returned v ∧ w' = w.drewN (n + k)) : Calls P f args (w.drewN (n + k)) fun e w'' => e = .returned v ∧ ∃ m, w'' = w.drewN (n + m) :=
  h.mono fun _ _ ⟨he, hm⟩ => ⟨he, k, hm⟩
theorem drewN_add (w : World) (n k : Nat) : (w.drewN n).drewN k = w.drewN (n + k) := by simp [World.drewN, Nat.add_assoc]
theorem below_same (w : World) (n : Nat) : Below w.heap.size w (w.drewN n) := below_drewN (Below.refl _ _) n
theorem bt {w wr w' : World} (h : Below w.heap.size w wr) (k : Below wr.heap.size wr w') : Below w.heap.size w w' := h.trans (k.mono h.size)
theorem one_new (w : World) (x : Value) (t : TypeId) : ∀ j u, [x][j]? = some u → (w.alloc (.cells #[x] t)).cell? ((⟨w.heap.size, 0, none⟩ : Addr).add j) = some u := by
  intro j u hj
  cases j with
  | zero => simp at hj; subst hj; simp [Addr.add]
  | succ j => simp at hj
theorem below_push {B e size n : Nat} {w wr w1 : World} {v : Value} {xs : List Value} {o : Obj} (hB : Below B w wr) (hb : B ≤ wr.heap.size) (hown : wr.ownsRow B e size v n xs) (hg : (wr.alloc o).grownBy w1 v.ownBlock) : Below B w w1 :=
  (hB.alloc hb o).grown hg (by simp; omega) (fun k hk => (hown.lt k hk).1)
end Go.Proofs.YtgnfknjopafngaaGreatDoor
namespace Go.Proofs.YtgnfknjopafngaaGreatDoor
open Go.RowKit
theorem infoStr : (Tryz.prog.info? 9).map (fun i => (i.zero, i.size, i.bytes)) = some (some (.string ⟨#[]⟩), 1, 16) := by kernel_rfl
def strV (l : List UInt8) : Value := .string ⟨l.toArray⟩
def cutB (s sep : ByteArray) : List (List UInt8) := M.cutS s.data.toList sep.data.toList
theorem strV_ext (s : ByteArray) (a b : Nat) : Value.string (s.extract a b) = strV ((s.data.toList.drop a).take (b - a)) := by unfold strV; rw [Lib.extract_eq]
def cutRel (s sep : ByteArray) (os : List (List UInt8)) (from' i : Nat) : Prop :=
  from' ≤ i ∧ i ≤ s.size ∧ os.length ≤ i ∧ cutB s sep = os ++ M.cutA sep.data.toList (s.size - i) ((s.data.toList.drop from').take (i - from')) (s.data.toList.drop i)
theorem cutRel_start (s sep : ByteArray) : cutRel s sep [] 0 0 := ⟨Nat.le_refl _, Nat.zero_le _, Nat.zero_le _, by unfold cutB M.cutS; simp⟩
theorem cutRel_hit {s sep : ByteArray} {os : List (List UInt8)} {f i : Nat} (h : cutRel s sep os f i) (hs : 0 < sep.size) (hi : i + sep.size ≤ s.size) (ht : ((s.extract i (i + sep.size)).toList == sep.toList) = true) :
    cutRel s sep (os ++ [(s.data.toList.drop f).take (i - f)]) (i + sep.size) (i + sep.size) := by
  obtain ⟨h1, h2, h3, h4⟩ := h
  have hs' : 0 < sep.data.toList.length := by simpa using hs
  rw [Lib.toList_data, Lib.toList_data, Lib.extract_data, beq_iff_eq] at ht
  have e : i + sep.size - i = sep.data.toList.length := by simp
  rw [e] at ht
  refine ⟨Nat.le_refl _, by omega, by simp; omega, ?_⟩
  rw [h4, M.cutA_hit hs' _ (s.size - (i + sep.size)) _ _ (by simp) (by simp only [List.length_drop, Array.length_toList, ByteArray.size_data]; omega) (by simp; omega) ht]
  simp [List.drop_drop]
theorem cutRel_miss {s sep : ByteArray} {os : List (List UInt8)} {f i : Nat} (h : cutRel s sep os f i) (hs : 0 < sep.size) (hi : i + sep.size ≤ s.size) (ht : ((s.extract i (i + sep.size)).toList == sep.toList) = false) :
    cutRel s sep os f (i + 1) := by
  obtain ⟨h1, h2, h3, h4⟩ := h
  have hs' : 0 < sep.data.toList.length := by simpa using hs
  rw [Lib.toList_data, Lib.toList_data, Lib.extract_data, beq_eq_false_iff_ne] at ht
  have e : i + sep.size - i = sep.data.toList.length := by simp
  rw [e] at ht
  refine ⟨by omega, by omega, by omega, ?_⟩
  rw [h4, M.cutA_miss hs' _ (s.size - (i + 1)) _ _ (by simp) (by simp only [List.length_drop, Array.length_toList, ByteArray.size_data]; omega) (by simp; omega) ht]
  have e2 : (s.data.toList.drop f).take (i + 1 - f) = (s.data.toList.drop f).take (i - f) ++ (s.data.toList.drop i).take 1 := by
    rw [show i + 1 - f = (i - f) + 1 by omega, List.take_add, List.drop_drop, show f + (i - f) = i by omega]
  rw [e2, List.drop_drop]
theorem cutRel_end {s sep : ByteArray} {os : List (List UInt8)} {f i : Nat} (h : cutRel s sep os f i) (hi : s.size < i + sep.size) :
    cutB s sep = os ++ [s.data.toList.drop f] := by
  obtain ⟨h1, h2, h3, h4⟩ := h
  rw [h4, M.cutA_stop _ _ _ (by simp; omega)]
  congr 2
  conv => rhs; rw [← List.take_append_drop (i - f) (s.data.toList.drop f)]
  rw [List.drop_drop, show f + (i - f) = i by omega]
end Go.Proofs.YtgnfknjopafngaaGreatDoor
namespace Go.Proofs.YtgnfknjopafngaaGreatDoor
open Go.RowKit
theorem bytes_list (l : List (List UInt8)) : ∃ ps : List ByteArray, l = ps.map (fun p => p.data.toList) :=
  ⟨l.map (fun x => ⟨x.toArray⟩), by
    induction l with
    | nil => rfl
    | cons a l ih => simp only [List.map_cons]; rw [← ih]⟩
theorem piece_size {s sep : ByteArray} {ps : List ByteArray} (hps : cutB s sep = ps.map (fun p => p.data.toList)) (p : ByteArray) (hp : p ∈ ps) : p.size ≤ s.size := by
  have := M.cutS_mem s.data.toList sep.data.toList p.data.toList (by show _ ∈ cutB s sep; rw [hps]; exact List.mem_map.mpr ⟨p, hp, rfl⟩)
  simpa using this
theorem strV_of (s : ByteArray) : Value.string s = strV s.data.toList := rfl
end Go.Proofs.YtgnfknjopafngaaGreatDoor
namespace Go.Proofs.YtgnfknjopafngaaGreatDoor
open Go.RowKit
def chCells (c : M.Ch) : List Value := [strV c.name, strV c.sign, strV c.ver]
def chsCells (l : List M.Ch) : List Value := l.flatMap chCells
theorem chsCells_len (l : List M.Ch) : (chsCells l).length = l.length * 3 := by
  induction l with
  | nil => rfl
  | cons c l ih => simp only [chsCells, List.flatMap_cons, List.length_append] at ih ⊢; rw [ih]; simp [chCells]; omega
theorem chsCells_snoc (l : List M.Ch) (c : M.Ch) : chsCells (l ++ [c]) = chsCells l ++ [strV c.name, strV c.sign, strV c.ver] := by
  simp [chsCells, chCells]
theorem allS_snoc {α : Type} (f : List UInt8 → Option α) : ∀ (l : List (List UInt8)) (r : List α) (s : List UInt8), M.allS f l = some r → M.allS f (l ++ [s]) = (f s).map (fun c => r ++ [c])
  | [], r, s, h => by
    simp only [M.allS, Option.some.injEq] at h
    subst h
    simp only [List.nil_append, M.allS]
    cases f s <;> rfl
  | x :: l, r, s, h => by
    simp only [M.allS] at h
    simp only [List.cons_append, M.allS]
    cases hx : f x with
    | none => rw [hx] at h; cases h
    | some c =>
      rw [hx] at h
      cases hl : M.allS f l with
      | none => rw [hl] at h; cases h
      | some t =>
        rw [hl] at h
        cases h
        rw [allS_snoc f l t s hl]
        cases f s <;> rfl
theorem allS_stop {α : Type} (f : List UInt8 → Option α) : ∀ (l m : List (List UInt8)), M.allS f l = none → M.allS f (l ++ m) = none
  | [], m, h => by simp [M.allS] at h
  | x :: l, m, h => by
    simp only [M.allS] at h
    simp only [List.cons_append, M.allS]
    cases hx : f x with
    | none => rfl
    | some c =>
      rw [hx] at h
      cases hl : M.allS f l with
      | none => rw [allS_stop f l m hl]
      | some t => rw [hl] at h; cases h
theorem own_below {w w' : World} {B e size n : Nat} {v : Value} {xs : List Value} (h : w.ownsRow B e size v n xs) (hb : Below w.heap.size w w') : w'.ownsRow B e size v n xs :=
  h.kept (row := none) ⟨hb.os, hb.tape, hb.output, hb.size, fun k hk _ => hb.block k hk⟩ (by cases hv : v.ownBlock with | none => exact .inl rfl | some k => exact .inr (by simp))
theorem own_form {w : World} {B e size n : Nat} {v : Value} {xs : List Value} (h : w.ownsRow B e size v n xs) : ∃ a cap, v = .slice a n cap := by
  obtain ⟨_, ⟨rfl, rfl⟩ | ⟨g, cap, cur, rfl, _⟩⟩ := h
  · exact ⟨_, _, rfl⟩
  · exact ⟨_, _, rfl⟩
theorem own_base {w : World} {B B' e size n : Nat} {v : Value} {xs : List Value} (h : w.ownsRow B e size v n xs) (hB : B' ≤ B) : w.ownsRow B' e size v n xs := by
  obtain ⟨hl, h | ⟨g, cap, cur, h1, h2, h3⟩⟩ := h
  · exact ⟨hl, .inl h⟩
  · exact ⟨hl, .inr ⟨g, cap, cur, h1, by omega, h3⟩⟩
theorem new_cells (w : World) (xs : List Value) (t : TypeId) : ∀ j u, xs[j]? = some u → (w.alloc (.cells xs.toArray t)).cell? ((⟨w.heap.size, 0, none⟩ : Addr).add j) = some u := by
  intro j u hj
  have e : (w.alloc (.cells xs.toArray t)).heap[w.heap.size]? = some (.cells xs.toArray t) := (MapKept.heap_alloc w _).1
  have e2 : ((⟨w.heap.size, 0, none⟩ : Addr).add j) = ⟨w.heap.size, j, none⟩ := by unfold Addr.add; by_cases h : j = 0 <;> simp [h]
  rw [e2]
  simp only [World.cell?, e]
  simpa using hj
end Go.Proofs.YtgnfknjopafngaaGreatDoor
namespace Go.Proofs.YtgnfknjopafngaaGreatDoor
open Go.RowKit
def neqP (c : Int) : Bool := decide (c ≠ 61)
end Go.Proofs.YtgnfknjopafngaaGreatDoor
namespace Go.Proofs.YtgnfknjopafngaaGreatDoor
open Go.RowKit
def StrBlk (w : World) (g : Nat) : Prop := ∃ c f, w.heap[g]? = some (.cells c 9 f)
def CellS (w w' : World) (g o : Nat) : Prop := w'.cell? ⟨g, o, none⟩ = w.cell? ⟨g, o, none⟩ ∧ (StrBlk w' g → StrBlk w g)
theorem CellS.trans {w w1 w2 : World} {g o : Nat} (h : CellS w1 w2 g o) (k : CellS w w1 g o) : CellS w w2 g o := ⟨h.1.trans k.1, fun e => k.2 (h.2 e)⟩
theorem blockS {w w' : World} {g o : Nat} (h : w'.heap[g]? = w.heap[g]?) : CellS w w' g o := ⟨World.cell?_of_block (a := ⟨g, o, none⟩) h, fun ⟨c, f, e⟩ => ⟨c, f, h.symm.trans e⟩⟩
theorem belowS {B : Nat} {w w' : World} {g o : Nat} (h : Below B w w') (hg : g < B) : CellS w w' g o := blockS (h.block g hg)
theorem setS {w : World} {b o : Nat} {v : Value} {g o' : Nat} (h : g ≠ b) : CellS w (w.setCell ⟨b, o, none⟩ v) g o' := blockS (Below.heap_setCell _ _ _ _ h)
def RowIn (w : World) (lo hi : Nat) (v : Value) (n : Nat) (xs : List Value) : Prop :=
  (v = .slice none 0 0 ∧ n = 0 ∧ xs = []) ∨ ∃ g cap, v = .slice (some ⟨g, 0, none⟩) n cap ∧ n ≤ cap ∧ lo ≤ g ∧ (g < hi ∧ (StrBlk w g → xs.length = n)) ∧ ∀ j u, xs[j]? = some u → w.cell? ⟨g, j, none⟩ = some u
theorem RowIn.form {w : World} {lo hi n : Nat} {v : Value} {xs : List Value} (h : RowIn w lo hi v n xs) : ∃ a cap, v = .slice a n cap := by
  obtain ⟨rfl, rfl, rfl⟩ | ⟨g, cap, rfl, _⟩ := h
  · exact ⟨_, _, rfl⟩
  · exact ⟨_, _, rfl⟩
theorem RowIn.keep {w w' : World} {lo hi n : Nat} {v : Value} {xs : List Value} (h : RowIn w lo hi v n xs) (hk : ∀ g o, lo ≤ g → g < hi → CellS w w' g o) : RowIn w' lo hi v n xs := by
  obtain h | ⟨g, cap, h1, h2, h3, h4, h5⟩ := h
  · exact .inl h
  · exact .inr ⟨g, cap, h1, h2, h3, ⟨h4.1, fun e => h4.2 ((hk g 0 h3 h4.1).2 e)⟩, fun j u hj => (hk g j h3 h4.1).1.trans (h5 j u hj)⟩
theorem RowIn.wide {w : World} {lo hi lo' hi' n : Nat} {v : Value} {xs : List Value} (h : RowIn w lo hi v n xs) (h1 : lo' ≤ lo) (h2 : hi ≤ hi') : RowIn w lo' hi' v n xs := by
  obtain h | ⟨g, cap, a, b, c, d, e⟩ := h
  · exact .inl h
  · exact .inr ⟨g, cap, a, b, by omega, ⟨by omega, d.2⟩, e⟩
theorem RowIn.own {w : World} {B e size n : Nat} {v : Value} {xs : List Value} (h : w.ownsRow B e size v n xs) (ht : e = 9 → size = 1 := by decide) : RowIn w B w.heap.size v n xs := by
  have hlt := h.lt
  have hce := fun g hg => h.cells (g := g) hg
  obtain ⟨hl, ⟨rfl, rfl⟩ | ⟨g, cap, cur, rfl, h2, h3, h4, _⟩⟩ := h
  · exact .inl ⟨rfl, rfl, List.length_eq_zero_iff.mp (by omega)⟩
  · refine .inr ⟨g, cap, rfl, h4, h2, ⟨(hlt g rfl).2, fun ⟨c, f, he⟩ => ?_⟩, fun j u hj => ?_⟩
    · rw [h3] at he
      injection he with he
      injection he with _ he
      rw [hl, ht he, Nat.mul_one]
    have := hce g rfl j u hj
    have e2 : ((⟨g, 0, none⟩ : Addr).add j) = ⟨g, j, none⟩ := by unfold Addr.add; by_cases h : j = 0 <;> simp [h]
    rwa [e2] at this
def NeedsIn (w : World) (lo hi : Nat) (v : Value) (l : List (List M.Ch)) : Prop :=
  ∃ vs : List Value, RowIn w lo hi v l.length vs ∧ vs.length = l.length ∧ ∀ (i : Nat) x, l[i]? = some x → ∃ u, vs[i]? = some u ∧ RowIn w lo hi u x.length (chsCells x)
theorem NeedsIn.keep {w w' : World} {lo hi : Nat} {v : Value} {l : List (List M.Ch)} (h : NeedsIn w lo hi v l) (hk : ∀ g o, lo ≤ g → g < hi → CellS w w' g o) : NeedsIn w' lo hi v l := by
  obtain ⟨vs, h1, h2, h3⟩ := h
  exact ⟨vs, h1.keep hk, h2, fun i x hx => by obtain ⟨u, a, b⟩ := h3 i x hx; exact ⟨u, a, b.keep hk⟩⟩
theorem NeedsIn.nil (w : World) (lo hi : Nat) : NeedsIn w lo hi (.slice none 0 0) [] := ⟨[], .inl ⟨rfl, rfl, rfl⟩, rfl, fun i x h => by simp at h⟩
theorem NeedsIn.form {w : World} {lo hi : Nat} {v : Value} {l : List (List M.Ch)} (h : NeedsIn w lo hi v l) : ∃ a cap, v = .slice a l.length cap := by
  obtain ⟨vs, h1, _⟩ := h; exact h1.form
theorem NeedsIn.wide {w : World} {lo hi lo' hi' : Nat} {v : Value} {l : List (List M.Ch)} (h : NeedsIn w lo hi v l) (h1 : lo' ≤ lo) (h2 : hi ≤ hi') : NeedsIn w lo' hi' v l := by
  obtain ⟨vs, a, b, c⟩ := h
  exact ⟨vs, a.wide h1 h2, b, fun i x hx => by obtain ⟨u, d, e⟩ := c i x hx; exact ⟨u, d, e.wide h1 h2⟩⟩
def flCells (f : M.Fl) : List Value := [strV f.path, strV f.content]
def flsCells (l : List M.Fl) : List Value := l.flatMap flCells
theorem flsCells_snoc (l : List M.Fl) (f : M.Fl) : flsCells (l ++ [f]) = flsCells l ++ [strV f.path, strV f.content] := by simp [flsCells, flCells]
theorem flsCells_len (l : List M.Fl) : (flsCells l).length = l.length * 2 := by
  induction l with
  | nil => rfl
  | cons c l ih => simp only [flsCells, List.flatMap_cons, List.length_append] at ih ⊢; rw [ih]; simp [flCells]; omega
structure PAt (w : World) (pb B : Nat) (p : M.Pk) (nv bv fv : Value) : Prop where
  c0 : w.cell? ⟨pb, 0, none⟩ = some (.string ⟨p.name.toArray⟩)
  c1 : w.cell? ⟨pb, 1, none⟩ = some (.string ⟨p.ver.toArray⟩)
  c2 : w.cell? ⟨pb, 2, none⟩ = some nv
  c3 : w.cell? ⟨pb, 3, none⟩ = some bv
  c4 : w.cell? ⟨pb, 4, none⟩ = some fv
  fz : ∀ o, w.frozen? ⟨pb, o, none⟩ = false
  lt : pb < B
  le : B ≤ w.heap.size
  needs : NeedsIn w (pb + 1) B nv p.needs
  bars : RowIn w (pb + 1) B bv p.bars.length (chsCells p.bars)
  files : w.ownsRow B 74 2 fv p.files.length (flsCells p.files)
  nnil : p.needs = [] → nv = .slice none 0 0
  fnil : p.files = [] → fv = .slice none 0 0
def PkAt (w : World) (pb : Nat) (p : M.Pk) : Prop := ∃ B nv bv fv, PAt w pb B p nv bv fv
theorem PAt.below {w w' : World} {pb B : Nat} {p : M.Pk} {nv bv fv : Value} (h : PAt w pb B p nv bv fv) (hb : Below w.heap.size w w') : PAt w' pb B p nv bv fv := by
  have hpb : pb < w.heap.size := Nat.lt_of_lt_of_le h.lt h.le
  have k : ∀ o, w'.cell? ⟨pb, o, none⟩ = w.cell? ⟨pb, o, none⟩ := fun o => hb.cell (p := ⟨pb, o, none⟩) hpb
  have kk : ∀ g o, pb + 1 ≤ g → g < B → CellS w w' g o := fun g o _ hg => belowS hb (Nat.lt_of_lt_of_le hg h.le)
  exact ⟨(k 0).trans h.c0, (k 1).trans h.c1, (k 2).trans h.c2, (k 3).trans h.c3, (k 4).trans h.c4, fun o => (hb.frozen (p := ⟨pb, o, none⟩) hpb).trans (h.fz o), h.lt, Nat.le_trans h.le hb.size, h.needs.keep kk, h.bars.keep kk, own_below h.files hb, h.nnil, h.fnil⟩
end Go.Proofs.YtgnfknjopafngaaGreatDoor
namespace Go.Proofs.YtgnfknjopafngaaGreatDoor
open Go.RowKit
theorem size_set (w : World) (a : Addr) (v : Value) : (w.setCell a v).heap.size = w.heap.size := by simp [World.setCell]
theorem cell_set_block (w : World) (b o : Nat) (v : Value) (g o' : Nat) (h : g ≠ b) : (w.setCell ⟨b, o, none⟩ v).cell? ⟨g, o', none⟩ = w.cell? ⟨g, o', none⟩ :=
  World.cell?_setCell_other _ _ _ _ (by intro e; cases e; exact h rfl)
theorem cell_set_off (w : World) (b o : Nat) (v : Value) (o' : Nat) (h : o' ≠ o) : (w.setCell ⟨b, o, none⟩ v).cell? ⟨b, o', none⟩ = w.cell? ⟨b, o', none⟩ :=
  World.cell?_setCell_other _ _ _ _ (by intro e; cases e; exact h rfl)
theorem PAt.title {w : World} {pb B : Nat} {p : M.Pk} {nv bv fv : Value} (h : PAt w pb B p nv bv fv) (X Y : ByteArray) :
    PAt ((w.setCell ⟨pb, 0, none⟩ (.string X)).setCell ⟨pb, 1, none⟩ (.string Y)) pb B { p with name := X.data.toList, ver := Y.data.toList } nv bv fv := by
  have kk : ∀ g o, pb + 1 ≤ g → g < B → CellS w ((w.setCell ⟨pb, 0, none⟩ (.string X)).setCell ⟨pb, 1, none⟩ (.string Y)) g o := fun g o hg _ => by
    exact ((setS (by omega)).trans (setS (by omega)))
  have k1 : (w.setCell ⟨pb, 0, none⟩ (.string X)).cell? ⟨pb, 1, none⟩ = some (.string ⟨p.ver.toArray⟩) := (cell_set_off _ _ _ _ _ (by decide)).trans h.c1
  refine ⟨?_, ?_, ?_, ?_, ?_, fun o => ?_, h.lt, ?_, h.needs.keep kk, h.bars.keep kk, ?_, h.nnil, h.fnil⟩
  · rw [cell_set_off _ _ _ _ _ (by decide), World.cell?_setCell_same _ _ _ h.c0]
  · rw [World.cell?_setCell_same _ _ _ k1]
  · rw [cell_set_off _ _ _ _ _ (by decide), cell_set_off _ _ _ _ _ (by decide)]; exact h.c2
  · rw [cell_set_off _ _ _ _ _ (by decide), cell_set_off _ _ _ _ _ (by decide)]; exact h.c3
  · rw [cell_set_off _ _ _ _ _ (by decide), cell_set_off _ _ _ _ _ (by decide)]; exact h.c4
  · rw [World.frozen?_setCell, World.frozen?_setCell]; exact h.fz o
  · rw [size_set, size_set]; exact h.le
  · exact ownsRow_setCell_below (ownsRow_setCell_below h.files h.lt _) h.lt _
end Go.Proofs.YtgnfknjopafngaaGreatDoor
namespace Go.Proofs.YtgnfknjopafngaaGreatDoor
open Go.RowKit
def needsT : ByteArray := ⟨#[110, 101, 101, 100, 115, 32]⟩
def barsT : ByteArray := ⟨#[98, 97, 114, 115, 32]⟩
def fileT : ByteArray := ⟨#[102, 105, 108, 101, 32]⟩
theorem PAt.bars' {w w1 : World} {pb B : Nat} {p : M.Pk} {nv bv fv v : Value} {l : List M.Ch} (h : PAt w pb B p nv bv fv) (hb : Below w.heap.size w w1) (hf : p.files = [])
    (ho : w1.ownsRow w.heap.size 125 3 v l.length (chsCells l)) : PAt (w1.setCell ⟨pb, 3, none⟩ v) pb w1.heap.size { p with bars := l } nv v fv := by
  have h1 := h.below hb
  have hpb : pb < w.heap.size := Nat.lt_of_lt_of_le h.lt h.le
  have hz := hb.size
  have kk : ∀ g o, pb + 1 ≤ g → g < B → CellS w1 (w1.setCell ⟨pb, 3, none⟩ v) g o := fun g o hg _ => setS (by omega)
  have kk' : ∀ g o, w.heap.size ≤ g → g < w1.heap.size → CellS w1 (w1.setCell ⟨pb, 3, none⟩ v) g o := fun g o hg _ => setS (by omega)
  have e := h.fnil hf
  subst e
  refine ⟨?_, ?_, ?_, ?_, ?_, fun o => ?_, by omega, by rw [size_set]; exact Nat.le_refl _, (h1.needs.keep kk).wide (Nat.le_refl _) h1.le, ((RowIn.own ho).keep kk').wide (by omega) (Nat.le_refl _), ?_, h.nnil, fun _ => rfl⟩
  · rw [cell_set_off _ _ _ _ _ (by decide)]; exact h1.c0
  · rw [cell_set_off _ _ _ _ _ (by decide)]; exact h1.c1
  · rw [cell_set_off _ _ _ _ _ (by decide)]; exact h1.c2
  · rw [World.cell?_setCell_same _ _ _ h1.c3]
  · rw [cell_set_off _ _ _ _ _ (by decide)]; exact h1.c4
  · rw [World.frozen?_setCell]; exact h1.fz o
  · show World.ownsRow _ _ _ _ _ p.files.length (flsCells p.files)
    rw [hf]; exact World.ownsRow_nil _ _ _ _
end Go.Proofs.YtgnfknjopafngaaGreatDoor
namespace Go.Proofs.YtgnfknjopafngaaGreatDoor
open Go.RowKit
theorem fl_cell {l : List M.Fl} {k : Nat} (hk : k < l.length) : (flsCells l)[2 * k]? = some (strV l[k].path) := by
  induction l generalizing k with
  | nil => simp at hk
  | cons f l ih =>
    cases k with
    | zero => simp [flsCells, flCells]
    | succ k =>
      have := ih (k := k) (by simpa using hk)
      simp only [flsCells, List.flatMap_cons, flCells] at this ⊢
      rw [show 2 * (k + 1) = 2 * k + 1 + 1 by omega]
      simpa using this
theorem grown_keep {wx w2 : World} {row : Option Nat} (hg : wx.grownBy w2 row) (b : Nat) (hb : b < wx.heap.size) (hne : some b ≠ row) :
    ∀ o, w2.cell? ⟨b, o, none⟩ = wx.cell? ⟨b, o, none⟩ ∧ w2.frozen? ⟨b, o, none⟩ = wx.frozen? ⟨b, o, none⟩ := fun o =>
  ⟨World.cell?_of_block (w := wx) (a := ⟨b, o, none⟩) (hg.block b hb hne), World.frozen?_of_block (w := wx) (a := ⟨b, o, none⟩) (hg.block b hb hne)⟩
theorem PAt.grown {w wx w2 : World} {pb B : Nat} {p : M.Pk} {nv bv fv : Value} (h : PAt w pb B p nv bv fv) (hb : Below w.heap.size w wx) (hg : wx.grownBy w2 fv.ownBlock) :
    (∀ g o, g < B → CellS w w2 g o ∧ w2.frozen? ⟨g, o, none⟩ = w.frozen? ⟨g, o, none⟩) ∧ w.heap.size ≤ w2.heap.size := by
  have hz := hb.size
  have hz2 := hg.size
  refine ⟨fun g o hgB => ?_, by omega⟩
  have hl := h.le
  have k := grown_keep hg g (by omega) (fun e => by have := (h.files.lt g e.symm).1; omega) o
  exact ⟨(blockS (hg.block g (by omega) (fun e => by have := (h.files.lt g e.symm).1; omega))).trans (belowS hb (by show g < _; omega)), k.2.trans (hb.frozen (p := ⟨g, o, none⟩) (by show g < _; omega))⟩
theorem PAt.files' {w wx w2 : World} {pb B : Nat} {p : M.Pk} {nv bv fv v' : Value} {X Y : ByteArray} (h : PAt w pb B p nv bv fv) (hb : Below w.heap.size w wx) (hg : wx.grownBy w2 fv.ownBlock)
    (ho : w2.ownsRow B 74 2 v' (p.files.length + 1) (flsCells p.files ++ [.string X, .string Y])) :
    PAt (w2.setCell ⟨pb, 4, none⟩ v') pb B { p with files := p.files ++ [⟨X.data.toList, Y.data.toList⟩] } nv bv v' := by
  obtain ⟨hk, hz⟩ := h.grown hb hg
  have hlt := h.lt
  have kk : ∀ g o, pb + 1 ≤ g → g < B → CellS w (w2.setCell ⟨pb, 4, none⟩ v') g o := fun g o hg' hgB => (setS (by omega)).trans (hk g o hgB).1
  refine ⟨?_, ?_, ?_, ?_, ?_, fun o => ?_, hlt, by rw [size_set]; exact Nat.le_trans h.le hz, h.needs.keep kk, h.bars.keep kk, ?_, h.nnil, fun e => by simp at e⟩
  · rw [cell_set_off _ _ _ _ _ (by decide), (hk pb 0 hlt).1.1]; exact h.c0
  · rw [cell_set_off _ _ _ _ _ (by decide), (hk pb 1 hlt).1.1]; exact h.c1
  · rw [cell_set_off _ _ _ _ _ (by decide), (hk pb 2 hlt).1.1]; exact h.c2
  · rw [cell_set_off _ _ _ _ _ (by decide), (hk pb 3 hlt).1.1]; exact h.c3
  · rw [World.cell?_setCell_same _ _ _ ((hk pb 4 hlt).1.1.trans h.c4)]
  · rw [World.frozen?_setCell, (hk pb o hlt).2]; exact h.fz o
  · have e : flsCells (p.files ++ [M.Fl.mk X.data.toList Y.data.toList]) = flsCells p.files ++ [.string X, .string Y] := flsCells_snoc _ _
    show World.ownsRow _ _ _ _ _ (p.files ++ [M.Fl.mk X.data.toList Y.data.toList]).length (flsCells (p.files ++ [M.Fl.mk X.data.toList Y.data.toList]))
    rw [e]
    exact ownsRow_setCell_below (by simpa using ho) hlt _
end Go.Proofs.YtgnfknjopafngaaGreatDoor
