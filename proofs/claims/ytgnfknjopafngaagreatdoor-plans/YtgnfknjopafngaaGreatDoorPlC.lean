import Derived.Test.YtgnfknjopafngaaGreatDoorFmA
/-
  THE PLAIN MATHEMATICS OF PLANS: the document's answer, on packages. Nothing of the program is imported here.
-/
namespace Go.Proofs.YtgnfknjopafngaaGreatDoor
namespace M

/-- Is a package what is asked for? -/
def fitsS (c : Ch) (p : Pk) : Bool :=
  if c.name = p.name then
    (if c.sign = [60, 60] then decide (verC p.ver c.ver < 0)
    else if c.sign = [60, 61] then decide (verC p.ver c.ver ≤ 0)
    else if c.sign = [61] then decide (verC p.ver c.ver = 0)
    else if c.sign = [62, 61] then decide (0 ≤ verC p.ver c.ver)
    else if c.sign = [62, 62] then decide (0 < verC p.ver c.ver)
    else true)
  else false
/-- Is one of these among the packages? -/
def any1S (g : List Ch) (l : List Pk) : Bool := g.any fun c => l.any fun p => fitsS c p
/-- Of two names the lesser (none: []). -/
def firstS (a b : List UInt8) : List UInt8 := if a = [] ∨ (b ≠ [] ∧ Op.bytesLess b a = true) then b else a
/-- Where a name stands (-1: nowhere). -/
def findS (l : List Pk) (n : List UInt8) : Int := match l.findIdx? (fun p => p.name == n) with
  | some i => i
  | none => -1
/-- The first package that lacks what it needs. -/
def lackG (l : List Pk) (nm : List UInt8) (n : List UInt8) (g : List Ch) : List UInt8 := if any1S g l = true then n else firstS n nm
def lackP (l : List Pk) (n : List UInt8) (p : Pk) : List UInt8 := p.needs.foldl (lackG l p.name) n
def lackingS (l : List Pk) : List UInt8 := l.foldl (lackP l) []
/-- The first package that bars another. -/
def barG (l : List Pk) (i : Nat) (p : Pk) (n : List UInt8) (k : Nat) : List UInt8 := match l[k]? with
  | none => n
  | some q => if any1S p.bars [q] = true ∧ k ≠ i then firstS n p.name else n
def barP (l : List Pk) (n : List UInt8) (i : Nat) : List UInt8 := match l[i]? with
  | none => n
  | some p => (List.range l.length).foldl (barG l i p) n
def barringS (l : List Pk) : List UInt8 := (List.range l.length).foldl (barP l) []
/-- The first path that belongs to two, or is a file and a folder. -/
def clB (i k : Nat) (p : List UInt8) (n : List UInt8) (g : Fl) : List UInt8 := if over p g.path = true ∨ (p = g.path ∧ i ≠ k) then firstS n p else n
def clA (i k : Nat) (fs : List Fl) (n : List UInt8) (f : Fl) : List UInt8 := fs.foldl (clB i k f.path) n
def clK (l : List Pk) (i : Nat) (p : Pk) (n : List UInt8) (k : Nat) : List UInt8 := match l[k]? with
  | none => n
  | some q => p.files.foldl (clA i k q.files) n
def clI (l : List Pk) (n : List UInt8) (i : Nat) : List UInt8 := match l[i]? with
  | none => n
  | some p => (List.range l.length).foldl (clK l i p) n
def clashingS (l : List Pk) : List UInt8 := (List.range l.length).foldl (clI l) []
/-- Does a new package wait for another new one? -/
def waitsG (p q : Pk) (there : List Pk) (g : List Ch) : Bool := !any1S g there && (!any1S g [p] && any1S g [q])
def waitsS (p q : Pk) (there : List Pk) : Bool := p.needs.any (waitsG p q there)
/-- Which of those that are left may be set up now: the first by name. -/
def holdsS (l there : List Pk) (i : Nat) (p : Pk) (f : Bool) (k : Nat) : Bool := match l[k]? with
  | none => f
  | some q => if waitsS p q there = true ∧ k ≠ i then false else f
def freeS (l there : List Pk) (i : Nat) (p : Pk) : Bool := (List.range l.length).foldl (holdsS l there i p) true
def readyI (l there : List Pk) (n : List UInt8) (i : Nat) : List UInt8 := match l[i]? with
  | none => n
  | some p => if freeS l there i p = true then firstS n p.name else n
def readyS (l there : List Pk) : List UInt8 := (List.range l.length).foldl (readyI l there) []
/-- In which order new packages are set up; and those that are left. -/
def orderS (there : List Pk) : Nat → List Pk → List (List UInt8) → List (List UInt8) × List Pk
  | 0, l, out => (out, l)
  | f + 1, l, out => if readyS l there = [] then (out, l) else match l.findIdx? (fun p => p.name == readyS l there) with
    | none => (out, l)
    | some k => orderS there f (l.take k ++ l.drop (k + 1)) (out ++ [readyS l there])
theorem firstS_or (a b : List UInt8) : firstS a b = a ∨ firstS a b = b := by
  unfold firstS
  by_cases h : a = [] ∨ (b ≠ [] ∧ Op.bytesLess b a = true)
  · rw [if_pos h]; exact .inr rfl
  · rw [if_neg h]; exact .inl rfl
theorem ready_mem (l there : List Pk) (n : Nat) : (List.range n).foldl (readyI l there) [] = [] ∨ ∃ p ∈ l, p.name = (List.range n).foldl (readyI l there) [] := by
  induction n with
  | zero => exact .inl rfl
  | succ n ih =>
    rw [List.range_succ, List.foldl_append]
    generalize (List.range n).foldl (readyI l there) [] = a at ih
    show readyI l there a n = [] ∨ ∃ p ∈ l, p.name = readyI l there a n
    unfold readyI
    cases h : l[n]? with
    | none => exact ih
    | some p =>
      dsimp only
      by_cases hf : freeS l there n p = true
      · rw [if_pos hf]
        rcases firstS_or a p.name with e | e
        · rw [e]; exact ih
        · rw [e]; exact .inr ⟨p, List.mem_of_getElem? h, rfl⟩
      · rw [if_neg hf]; exact ih
theorem ready_find {l there : List Pk} (h : readyS l there ≠ []) : ∃ k, k < l.length ∧ l.findIdx? (fun p => p.name == readyS l there) = some k := by
  rcases ready_mem l there l.length with e | ⟨p, hp, e⟩
  · exact absurd e h
  · cases hf : l.findIdx? (fun p => p.name == readyS l there) with
    | none =>
      have := List.findIdx?_eq_none_iff.1 hf p hp
      rw [e] at this
      simp [readyS] at this
    | some k => exact ⟨k, (List.findIdx?_eq_some_iff_getElem.1 hf).1, rfl⟩
theorem order_end {l there : List Pk} {out : List (List UInt8)} (h : readyS l there = []) : orderS there l.length l out = (out, l) := by
  cases hl : l.length with
  | zero => rfl
  | succ n => unfold orderS; rw [if_pos h]
theorem order_step {l there : List Pk} {out : List (List UInt8)} {k : Nat} (h : readyS l there ≠ []) (hk : k < l.length) (hf : l.findIdx? (fun p => p.name == readyS l there) = some k) :
    orderS there l.length l out = orderS there (l.take k ++ l.drop (k + 1)).length (l.take k ++ l.drop (k + 1)) (out ++ [readyS l there]) := by
  obtain ⟨n, hn⟩ : ∃ n, l.length = n + 1 := ⟨l.length - 1, by omega⟩
  have e : (l.take k ++ l.drop (k + 1)).length = n := by rw [List.length_append, List.length_take, List.length_drop]; omega
  rw [e, hn]
  conv => lhs; unfold orderS
  rw [if_neg h, hf]
end M
theorem fold_take {α β : Type} (f : β → α → β) (b : β) {l : List α} {k : Nat} (hk : k < l.length) : (l.take (k + 1)).foldl f b = f ((l.take k).foldl f b) l[k] := by
  rw [List.take_succ_eq_append_getElem hk, List.foldl_append]; rfl
theorem fold_range {β : Type} (f : β → Nat → β) (b : β) (k : Nat) : (List.range (k + 1)).foldl f b = f ((List.range k).foldl f b) k := by
  rw [List.range_succ, List.foldl_append]; rfl
end Go.Proofs.YtgnfknjopafngaaGreatDoor
