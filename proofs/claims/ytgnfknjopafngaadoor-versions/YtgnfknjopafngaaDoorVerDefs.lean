/-
  THE PLAIN MATHEMATICS OF VERSIONS: what the code's functions and the document's answer reckon, on lists of bytes. Nothing of the program is imported here.
-/
import Derived.Lib.Bytealg
namespace Go.Proofs.YtgnfknjopafngaaDoor
namespace M

def isD (c : Int) : Bool := decide (48 ≤ c ∧ c ≤ 57)
def isNo (c : Int) : Bool := !isD c
def isSm (c : Int) : Bool := decide (97 ≤ c ∧ c ≤ 122)
def isLt (c : Int) : Bool := decide ((97 ≤ c ∧ c ≤ 122) ∨ (65 ≤ c ∧ c ≤ 90))
def cmpI (x y : Int) : Int := if x < y then -1 else if y < x then 1 else 0
def rk (c : Int) : Int := if c = 126 then -1 else if isLt c = true then c else 256 + c
def rkR (c : Int) : Int := if c = 126 then -1 else if isLt c = true then c else c + 1000
def lead (p : Int → Bool) (l : List UInt8) : Nat := (l.takeWhile (fun b => p b.toNat)).length

theorem isD_eq (c : Int) : isD c = (decide (48 ≤ c) && decide (c ≤ 57)) := by unfold isD; simp
theorem isD_t {c : Int} (h : 48 ≤ c) (k : c ≤ 57) : isD c = true := by unfold isD; simp; omega
theorem isD_f1 {c : Int} (h : c < 48) : isD c = false := by unfold isD; simp; omega
theorem isD_f2 {c : Int} (h : 57 < c) : isD c = false := by unfold isD; simp; omega

theorem lead_le (p : Int → Bool) (l : List UInt8) : lead p l ≤ l.length := by
  unfold lead; exact (List.takeWhile_sublist _).length_le
theorem lead_nil (p : Int → Bool) : lead p [] = 0 := rfl
theorem lead_cons (p : Int → Bool) (b : UInt8) (l : List UInt8) : lead p (b :: l) = if p b.toNat = true then lead p l + 1 else 0 := by
  unfold lead
  simp only [List.takeWhile_cons]
  by_cases h : p b.toNat = true <;> simp [h]
/-- Up to the lead every byte is of the kind; the byte there is not. -/
theorem lead_lt {p : Int → Bool} : ∀ {l : List UInt8} {k : Nat}, k < lead p l → ∀ (h : k < l.length), p (l[k]).toNat = true
  | [], k, h, hl => by simp at hl
  | b :: l, 0, h, hl => by
    rw [lead_cons] at h
    by_cases hp : p b.toNat = true
    · simpa using hp
    · simp [hp] at h
  | b :: l, k + 1, h, hl => by
    rw [lead_cons] at h
    by_cases hp : p b.toNat = true
    · simp [hp] at h
      exact lead_lt h (by simpa using hl)
    · simp [hp] at h
theorem lead_eq {p : Int → Bool} : ∀ {l : List UInt8} {k : Nat}, (∀ j (h : j < l.length), j < k → p (l[j]).toNat = true) → k ≤ l.length → (∀ (h : k < l.length), p (l[k]).toNat = false) → lead p l = k
  | [], k, _, hk, _ => by simp at hk; subst hk; rfl
  | b :: l, 0, _, _, hn => by
    rw [lead_cons]
    have := hn (by simp)
    simp at this
    simp [this]
  | b :: l, k + 1, ha, hk, hn => by
    rw [lead_cons]
    have h0 := ha 0 (by simp) (by omega)
    simp at h0
    rw [if_pos h0, lead_eq (l := l) (k := k) (fun j h hj => ha (j + 1) (by simpa using h) (by omega)) (by simpa using hk) (fun h => hn (by simpa using h))]

/-- Does a text stand in another one at a place; anywhere? -/
def at' (s t : List UInt8) (j : Nat) : Bool := (t.drop j).take s.length == s
def inn (s t : List UInt8) : Bool := (List.range (t.length + 1 - s.length)).any (at' s t)
theorem inn_yes {s t : List UInt8} {k : Nat} (h : k + s.length ≤ t.length) (hk : at' s t k = true) : inn s t = true := by
  unfold inn; rw [List.any_eq_true]; exact ⟨k, by rw [List.mem_range]; omega, hk⟩
theorem inn_no {s t : List UInt8} {k : Nat} (h : ∀ j, j < k → at' s t j = false) (hk : t.length < k + s.length) : inn s t = false := by
  unfold inn
  rw [List.any_eq_false]
  intro j hj
  rw [List.mem_range] at hj
  rw [h j (by omega)]; decide
theorem inn_one (c : UInt8) (t : List UInt8) : inn [c] t = t.contains c := by
  induction t with
  | nil => rfl
  | cons b t ih =>
    unfold inn at ih ⊢
    have e : (b :: t).length + 1 - [c].length = (t.length + 1 - [c].length) + 1 := by simp
    rw [e, List.range_succ_eq_map, List.any_cons, List.any_map, List.contains_cons, ← ih]
    have e1 : at' [c] (b :: t) 0 = (c == b) := by
      unfold at'; simp
      exact BEq.comm
    have e2 : (at' [c] (b :: t) ∘ Nat.succ) = at' [c] t := by funext j; simp [at']
    rw [e1, e2]

/-- Leading noughts away. -/
def strip (l : List UInt8) : List UInt8 := l.dropWhile (fun b => b == 48)
theorem strip_le (l : List UInt8) : (strip l).length ≤ l.length := (List.dropWhile_sublist _).length_le

end M
end Go.Proofs.YtgnfknjopafngaaDoor
