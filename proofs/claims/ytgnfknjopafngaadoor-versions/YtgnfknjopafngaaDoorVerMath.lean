/-
  THE PLAIN MATHEMATICS OF VERSIONS, 2: the order of versions as an order of rows of numbers.
-/
import Derived.Test.YtgnfknjopafngaaDoorVerDefs
namespace Go.Proofs.YtgnfknjopafngaaDoor
namespace M

/-- Rows of numbers, one behind the other; behind a row's end stand noughts. -/
def lexC : List Int → List Int → Int
  | [], [] => 0
  | [], y :: ys => if cmpI 0 y = 0 then lexC [] ys else cmpI 0 y
  | x :: xs, [] => if cmpI x 0 = 0 then lexC xs [] else cmpI x 0
  | x :: xs, y :: ys => if cmpI x y = 0 then lexC xs ys else cmpI x y

theorem cmpI_self (x : Int) : cmpI x x = 0 := by unfold cmpI; simp
theorem cmpI_zero {x y : Int} : cmpI x y = 0 ↔ x = y := by unfold cmpI; split <;> (try split) <;> omega
theorem cmpI_neg (x y : Int) : cmpI x y = - cmpI y x := by unfold cmpI; split <;> split <;> (try split) <;> omega
theorem cmpI_bd (x y : Int) : -1 ≤ cmpI x y ∧ cmpI x y ≤ 1 := by unfold cmpI; split <;> (try split) <;> omega
theorem cmpI_le {x y : Int} : cmpI x y ≤ 0 ↔ x ≤ y := by unfold cmpI; split <;> (try split) <;> omega
theorem cmpI_lt {x y : Int} : cmpI x y < 0 ↔ x < y := by unfold cmpI; split <;> (try split) <;> omega
theorem cmpI_congr {x y a b : Int} (h : x < y ↔ a < b) (k : y < x ↔ b < a) : cmpI x y = cmpI a b := by unfold cmpI; simp only [h, k]

theorem lexC_step (x y : List Int) : lexC x y = if cmpI (x.headD 0) (y.headD 0) = 0 then lexC x.tail y.tail else cmpI (x.headD 0) (y.headD 0) := by
  cases x with
  | nil => cases y with
    | nil => simp [lexC, cmpI_self]
    | cons b y => simp [lexC]
  | cons a x => cases y with
    | nil => simp [lexC]
    | cons b y => simp [lexC]

theorem lexC_bd : ∀ (x y : List Int), -1 ≤ lexC x y ∧ lexC x y ≤ 1
  | [], [] => by simp [lexC]
  | [], y :: ys => by unfold lexC; have := lexC_bd [] ys; have := cmpI_bd 0 y; split <;> omega
  | x :: xs, [] => by unfold lexC; have := lexC_bd xs []; have := cmpI_bd x 0; split <;> omega
  | x :: xs, y :: ys => by unfold lexC; have := lexC_bd xs ys; have := cmpI_bd x y; split <;> omega

theorem lexC_neg : ∀ (x y : List Int), lexC x y = - lexC y x
  | [], [] => by simp [lexC]
  | [], y :: ys => by
    unfold lexC; have h := lexC_neg [] ys; have k := cmpI_neg 0 y
    by_cases e : cmpI 0 y = 0
    · rw [if_pos e, if_pos (by omega), h]
    · rw [if_neg e, if_neg (by omega), k]
  | x :: xs, [] => by
    unfold lexC; have h := lexC_neg xs []; have k := cmpI_neg x 0
    by_cases e : cmpI x 0 = 0
    · rw [if_pos e, if_pos (by omega), h]
    · rw [if_neg e, if_neg (by omega), k]
  | x :: xs, y :: ys => by
    unfold lexC; have h := lexC_neg xs ys; have k := cmpI_neg x y
    by_cases e : cmpI x y = 0
    · rw [if_pos e, if_pos (by omega), h]
    · rw [if_neg e, if_neg (by omega), k]

theorem lexC_self (x : List Int) : lexC x x = 0 := by
  induction x with
  | nil => simp [lexC]
  | cons a x ih => unfold lexC; rw [if_pos (cmpI_self a), ih]

/-- A row of three holds: not later and not later: not later; the same only where both are. -/
theorem lexC_trans : ∀ (n : Nat) (x y z : List Int), x.length + y.length + z.length ≤ n → lexC x y ≤ 0 → lexC y z ≤ 0 →
    lexC x z ≤ 0 ∧ (lexC x z = 0 ↔ lexC x y = 0 ∧ lexC y z = 0)
  | 0, x, y, z, hn, h, k => by
    have hx : x = [] := List.length_eq_zero_iff.mp (by omega)
    have hy : y = [] := List.length_eq_zero_iff.mp (by omega)
    have hz : z = [] := List.length_eq_zero_iff.mp (by omega)
    subst hx hy hz; simp [lexC]
  | n + 1, x, y, z, hn, h, k => by
    by_cases he : x = [] ∧ y = [] ∧ z = []
    · obtain ⟨rfl, rfl, rfl⟩ := he; simp [lexC]
    · have hl : x.tail.length + y.tail.length + z.tail.length ≤ n := by
        have a1 : x.tail.length = x.length - 1 := List.length_tail
        have a2 : y.tail.length = y.length - 1 := List.length_tail
        have a3 : z.tail.length = z.length - 1 := List.length_tail
        have : x.length ≠ 0 ∨ y.length ≠ 0 ∨ z.length ≠ 0 := by
          by_cases e1 : x.length = 0
          · by_cases e2 : y.length = 0
            · by_cases e3 : z.length = 0
              · exact absurd ⟨List.length_eq_zero_iff.mp e1, List.length_eq_zero_iff.mp e2, List.length_eq_zero_iff.mp e3⟩ he
              · exact .inr (.inr e3)
            · exact .inr (.inl e2)
          · exact .inl e1
        omega
      have ih := lexC_trans n x.tail y.tail z.tail hl
      rw [lexC_step x y] at h ⊢
      rw [lexC_step y z] at k ⊢
      rw [lexC_step x z]
      generalize x.headD 0 = a at *
      generalize y.headD 0 = b at *
      generalize z.headD 0 = c at *
      have e1 := @cmpI_zero a b; have e2 := @cmpI_zero b c; have e3 := @cmpI_zero a c
      have l1 := @cmpI_le a b; have l2 := @cmpI_le b c; have l3 := @cmpI_le a c
      by_cases p : cmpI a b = 0
      · rw [if_pos p] at h ⊢
        by_cases q : cmpI b c = 0
        · rw [if_pos q] at k ⊢
          have hab := e1.mp p; have hbc := e2.mp q
          rw [if_pos (e3.mpr (hab.trans hbc))]
          exact ih h k
        · rw [if_neg q] at k ⊢
          have hab := e1.mp p
          subst hab
          rw [if_neg q]
          exact ⟨k, ⟨fun h' => absurd h' q, fun h' => absurd h'.2 q⟩⟩
      · rw [if_neg p] at h ⊢
        by_cases q : cmpI b c = 0
        · rw [if_pos q] at k ⊢
          have hbc := e2.mp q
          subst hbc
          rw [if_neg p]
          exact ⟨h, ⟨fun h' => absurd h' p, fun h' => absurd h'.1 p⟩⟩
        · rw [if_neg q] at k ⊢
          have hab := l1.mp h; have hbc := l2.mp k
          have nab : a ≠ b := fun e => p (e1.mpr e)
          have nbc : b ≠ c := fun e => q (e2.mpr e)
          have nac : ¬ cmpI a c = 0 := fun e => by have := e3.mp e; omega
          rw [if_neg nac]
          exact ⟨l3.mpr (by omega), ⟨fun h' => absurd h' nac, fun h' => absurd h'.1 p⟩⟩

theorem getD_tail (x : List Int) (j : Nat) : x.tail.getD j 0 = x.getD (j + 1) 0 := by cases x <;> simp
theorem lexC_at : ∀ (k : Nat) (x y : List Int), (∀ j, j < k → x.getD j 0 = y.getD j 0) → lexC x y = lexC (x.drop k) (y.drop k)
  | 0, x, y, _ => by simp
  | k + 1, x, y, h => by
    rw [lexC_step]
    have h0 := h 0 (by omega)
    have e : cmpI (x.headD 0) (y.headD 0) = 0 := by
      rw [cmpI_zero]
      cases x <;> cases y <;> simp_all
    rw [if_pos e, lexC_at k x.tail y.tail (fun j hj => by rw [getD_tail, getD_tail]; exact h (j + 1) (by omega))]
    simp
theorem headD_drop (x : List Int) (k : Nat) : (x.drop k).headD 0 = x.getD k 0 := by
  induction k generalizing x with
  | zero => cases x <;> simp
  | succ k ih => cases x with
    | nil => simp
    | cons a x => rw [List.drop_succ_cons, ih x]; rfl
theorem lexC_diff {k : Nat} {x y : List Int} (h : ∀ j, j < k → x.getD j 0 = y.getD j 0) (hk : cmpI (x.getD k 0) (y.getD k 0) ≠ 0) :
    lexC x y = cmpI (x.getD k 0) (y.getD k 0) := by
  rw [lexC_at k x y h, lexC_step, headD_drop, headD_drop, if_neg hk]
theorem lexC_same {k : Nat} {x y : List Int} (h : ∀ j, j < k → x.getD j 0 = y.getD j 0) (hx : x.length ≤ k) (hy : y.length ≤ k) :
    lexC x y = 0 := by
  rw [lexC_at k x y h, List.drop_eq_nil_of_le hx, List.drop_eq_nil_of_le hy]; simp [lexC]

/-- Words: rows without a nought, then their ends, then what follows. -/
theorem lexC_words : ∀ (a b : List Int) (x y : List Int), (∀ v ∈ a, v ≠ 0) → (∀ v ∈ b, v ≠ 0) →
    lexC (a ++ 0 :: x) (b ++ 0 :: y) = if lexC a b = 0 then lexC x y else lexC a b
  | [], [], x, y, _, _ => by simp [lexC, cmpI_self]
  | [], b :: bs, x, y, _, hb => by
    have h : cmpI 0 b ≠ 0 := fun e => hb b (by simp) (cmpI_zero.mp e).symm
    simp [lexC, h]
  | a :: as, [], x, y, ha, _ => by
    have h : cmpI a 0 ≠ 0 := fun e => ha a (by simp) (cmpI_zero.mp e)
    simp [lexC, h]
  | a :: as, b :: bs, x, y, ha, hb => by
    have ih := lexC_words as bs x y (fun v hv => ha v (by simp [hv])) (fun v hv => hb v (by simp [hv]))
    by_cases e : cmpI a b = 0
    · simp [lexC, e, ih]
    · simp [lexC, e]

/-- A row of digits as a number. -/
def num : List UInt8 → Nat
  | [] => 0
  | b :: l => (b.toNat - 48) * 10 ^ l.length + num l
def Digits (l : List UInt8) : Prop := ∀ b ∈ l, 48 ≤ b.toNat ∧ b.toNat ≤ 57
theorem num_lt : ∀ {l : List UInt8}, Digits l → num l < 10 ^ l.length
  | [], _ => by simp [num]
  | b :: l, h => by
    have ih := num_lt (l := l) (fun c hc => h c (by simp [hc]))
    have hb := h b (by simp)
    have := Nat.mul_le_mul_right (10 ^ l.length) (show b.toNat - 48 ≤ 9 by omega)
    simp only [num, List.length_cons, Nat.pow_succ]
    omega
theorem num_nought (l : List UInt8) : num (48 :: l) = num l := by simp [num]
theorem num_strip : ∀ (l : List UInt8), num (strip l) = num l
  | [] => rfl
  | b :: l => by
    unfold strip
    rw [List.dropWhile_cons]
    by_cases h : b = 48
    · subst h; have := num_strip l; unfold strip at this; simpa [num_nought] using this
    · simp [h]
theorem strip_head : ∀ (l : List UInt8), ∀ b r, strip l = b :: r → b ≠ 48
  | [], b, r, h => by simp [strip] at h
  | c :: l, b, r, h => by
    unfold strip at h
    rw [List.dropWhile_cons] at h
    by_cases e : c = 48
    · subst e; exact strip_head l b r (by simpa [strip] using h)
    · simp [e] at h; exact h.1 ▸ e
theorem strip_digits {l : List UInt8} (h : Digits l) : Digits (strip l) := fun b hb => h b ((List.dropWhile_sublist _).subset hb)
theorem num_ge {b : UInt8} {l : List UInt8} (hb : 49 ≤ b.toNat) : 10 ^ l.length ≤ num (b :: l) := by
  have := Nat.mul_le_mul_right (10 ^ l.length) (show 1 ≤ b.toNat - 48 by omega)
  simp only [num]; omega
theorem compareBytes_num : ∀ {a b : List UInt8}, Digits a → Digits b → a.length = b.length → Lib.compareBytes a b = cmpI (num a) (num b)
  | [], [], _, _, _ => by simp [Lib.compareBytes, num, cmpI]
  | [], _ :: _, _, _, h => by simp at h
  | _ :: _, [], _, _, h => by simp at h
  | x :: a, y :: b, ha, hb, hl => by
    have hl' : a.length = b.length := by simpa using hl
    have da : Digits a := fun c hc => ha c (by simp [hc])
    have db : Digits b := fun c hc => hb c (by simp [hc])
    have ih := compareBytes_num da db hl'
    have hx := ha x (by simp); have hy := hb y (by simp)
    have la := num_lt da; have lb := num_lt db
    unfold Lib.compareBytes
    simp only [num, hl'] at *
    generalize 10 ^ b.length = t at *
    by_cases h1 : x < y
    · have h1' : x.toNat < y.toNat := UInt8.lt_iff_toNat_lt.mp h1
      have := Nat.mul_le_mul_right t (show x.toNat - 48 + 1 ≤ y.toNat - 48 by omega)
      rw [Nat.add_mul] at this
      rw [if_pos h1]
      unfold cmpI
      rw [if_pos (by omega)]
    · rw [if_neg h1]
      have h1' : ¬ x.toNat < y.toNat := fun h => h1 (UInt8.lt_iff_toNat_lt.mpr h)
      by_cases h2 : y < x
      · have h2' : y.toNat < x.toNat := UInt8.lt_iff_toNat_lt.mp h2
        have := Nat.mul_le_mul_right t (show y.toNat - 48 + 1 ≤ x.toNat - 48 by omega)
        rw [Nat.add_mul] at this
        rw [if_pos h2]
        unfold cmpI
        rw [if_neg (by omega), if_pos (by omega)]
      · have h2' : ¬ y.toNat < x.toNat := fun h => h2 (UInt8.lt_iff_toNat_lt.mpr h)
        rw [if_neg h2, ih, show x.toNat = y.toNat by omega]
        exact cmpI_congr (by omega) (by omega)

/-- What the code's compareNumbers reckons. -/
def numC (a b : List UInt8) : Int :=
  if cmpI (strip a).length (strip b).length = 0 then Lib.compareBytes (strip a) (strip b) else cmpI (strip a).length (strip b).length
theorem num_long {a b : List UInt8} (da : Digits a) (db : Digits b) (hl : a.length < b.length) (hb : ∀ x r, b = x :: r → x ≠ 48) : num a < num b := by
  cases b with
  | nil => simp at hl
  | cons x r =>
    have hx := hb x r rfl
    have dx := db x (by simp)
    have : x.toNat ≠ 48 := fun e => hx (UInt8.toNat_inj.mp (by simpa using e))
    have h1 := num_lt da
    have h2 := num_ge (b := x) (l := r) (by omega)
    have h3 : 10 ^ a.length ≤ 10 ^ r.length := Nat.pow_le_pow_right (by omega) (by simp at hl; omega)
    omega
theorem numC_eq {a b : List UInt8} (da : Digits a) (db : Digits b) : numC a b = cmpI (num a) (num b) := by
  have sa := strip_digits da; have sb := strip_digits db
  rw [← num_strip a, ← num_strip b]
  unfold numC
  by_cases h : cmpI (strip a).length (strip b).length = 0
  · rw [if_pos h]
    exact compareBytes_num sa sb (by have := cmpI_zero.mp h; omega)
  · rw [if_neg h]
    have hn : (strip a).length ≠ (strip b).length := fun e => h (cmpI_zero.mpr (by omega))
    by_cases hl : (strip a).length < (strip b).length
    · have := num_long sa sb hl (fun x r e => strip_head b x r e)
      exact cmpI_congr (by omega) (by omega)
    · have := num_long sb sa (by omega) (fun x r e => strip_head a x r e)
      exact cmpI_congr (by omega) (by omega)

/-- A version's row of numbers: by turns a word's ranks, its end, and a number. -/
def ranks (l : List UInt8) : List Int := l.map (fun b => rk b.toNat)
/-- The rank at a place (behind the end: 0). -/
def rkAt (l : List UInt8) (k : Nat) : Int := (ranks l).getD k 0
theorem rk_ne (b : UInt8) : rk b.toNat ≠ 0 := by
  unfold rk isLt; have := b.toNat_lt; split
  · omega
  · split
    · rename_i h; simp at h; omega
    · omega
theorem ranks_ne (l : List UInt8) : ∀ v ∈ ranks l, v ≠ 0 := by
  intro v hv; unfold ranks at hv; rw [List.mem_map] at hv; obtain ⟨b, _, rfl⟩ := hv; exact rk_ne b

theorem lead_two {l : List UInt8} (h : l ≠ []) : 0 < lead isNo l ∨ 0 < lead isD (l.drop (lead isNo l)) := by
  cases l with
  | nil => exact absurd rfl h
  | cons b l =>
    rw [lead_cons]
    by_cases hb : isNo b.toNat = true
    · left; rw [if_pos hb]; omega
    · right; rw [if_neg hb, List.drop_zero, lead_cons, if_pos (by unfold isNo at hb; simpa using hb)]; omega

def keyF : Nat → List UInt8 → List Int
  | 0, _ => []
  | n + 1, l => if l = [] then [] else
    ranks (l.take (lead isNo l)) ++ 0 :: (num ((l.drop (lead isNo l)).take (lead isD (l.drop (lead isNo l)))) : Int) ::
      keyF n ((l.drop (lead isNo l)).drop (lead isD (l.drop (lead isNo l))))
def key (l : List UInt8) : List Int := keyF l.length l
theorem rest_lt {l : List UInt8} (h : l ≠ []) : ((l.drop (lead isNo l)).drop (lead isD (l.drop (lead isNo l)))).length < l.length := by
  have h1 := lead_two h
  have h2 := lead_le isNo l
  have h3 := lead_le isD (l.drop (lead isNo l))
  have : l.length ≠ 0 := fun e => h (List.length_eq_zero_iff.mp e)
  simp only [List.length_drop] at *
  omega
theorem keyF_any : ∀ (n m : Nat) (l : List UInt8), l.length ≤ n → l.length ≤ m → keyF n l = keyF m l
  | 0, m, l, hn, _ => by
    have : l = [] := List.length_eq_zero_iff.mp (by omega)
    subst this
    cases m <;> simp [keyF]
  | n + 1, 0, l, _, hm => by
    have : l = [] := List.length_eq_zero_iff.mp (by omega)
    subst this
    simp [keyF]
  | n + 1, m + 1, l, hn, hm => by
    by_cases h : l = []
    · simp [keyF, h]
    · have hr := rest_lt h
      simp only [keyF, if_neg h]
      rw [keyF_any n m _ (by omega) (by omega)]

theorem lexC_pad1 (y : List Int) : ∀ x, lexC (x ++ [0]) y = lexC x y
  | [] => by cases y with
    | nil => simp [lexC, cmpI_self]
    | cons b y => simp [lexC]
  | a :: x => by
    rw [lexC_step, lexC_step (a :: x)]
    simp only [List.cons_append, List.headD_cons, List.tail_cons]
    rw [lexC_pad1 y.tail x]
    rfl
theorem lexC_pad2 (x y : List Int) : lexC x (y ++ [0]) = lexC x y := by
  rw [lexC_neg, lexC_pad1, ← lexC_neg]

/-- The row of a text by its first two parts; at the empty text too. -/
def row (l : List UInt8) : List Int :=
  ranks (l.take (lead isNo l)) ++ 0 :: (num ((l.drop (lead isNo l)).take (lead isD (l.drop (lead isNo l)))) : Int) ::
      key ((l.drop (lead isNo l)).drop (lead isD (l.drop (lead isNo l))))
theorem key_row {l : List UInt8} (h : l ≠ []) : key l = row l := by
  have hr := rest_lt h
  have hl : l.length ≠ 0 := fun e => h (List.length_eq_zero_iff.mp e)
  have e : key l = keyF (l.length - 1 + 1) l := by unfold key; exact keyF_any _ _ _ (by omega) (by omega)
  rw [e]
  simp only [keyF, if_neg h]
  unfold row key
  rw [keyF_any (l.length - 1) _ _ (by omega) (Nat.le_refl _)]
theorem row_nil : row [] = [0, 0] := by
  unfold row; simp [lead_nil, ranks, num, key, keyF]
theorem key_nil : key [] = [] := rfl
theorem lexC_row1 (l : List UInt8) (y : List Int) : lexC (key l) y = lexC (row l) y := by
  by_cases h : l = []
  · subst h
    rw [row_nil, key_nil, show ([0, 0] : List Int) = ([] ++ [0]) ++ [0] from rfl, lexC_pad1, lexC_pad1]
  · rw [key_row h]
theorem lexC_row2 (x : List Int) (l : List UInt8) : lexC x (key l) = lexC x (row l) := by
  rw [lexC_neg, lexC_row1, ← lexC_neg]

/-- Which of two versions is the earlier one. -/
def verC (a b : List UInt8) : Int := lexC (key a) (key b)
def wordC (a b : List UInt8) : Int := lexC (ranks a) (ranks b)

theorem wordC_diff {a b : List UInt8} {k : Nat} (h : ∀ j, j < k → rkAt a j = rkAt b j) (hk : ¬ cmpI (rkAt a k) (rkAt b k) = 0) : wordC a b = cmpI (rkAt a k) (rkAt b k) :=
  lexC_diff h hk
theorem wordC_same {a b : List UInt8} {k : Nat} (h : ∀ j, j < k → rkAt a j = rkAt b j) (ha : a.length ≤ k) (hb : b.length ≤ k) : wordC a b = 0 :=
  lexC_same h (by simpa [ranks] using ha) (by simpa [ranks] using hb)
theorem strip_nought {l : List UInt8} (h : 0 < l.length) (h0 : l[0].toNat = 48) : strip (l.drop 1) = strip l := by
  cases l with
  | nil => simp at h
  | cons b l =>
    have e : b = 48 := UInt8.toNat_inj.mp (by simpa using h0)
    subst e; simp [strip]
theorem strip_stop {l : List UInt8} (h : 0 < l.length) (h0 : ¬ l[0].toNat = 48) : strip l = l := by
  cases l with
  | nil => simp at h
  | cons b l =>
    have e : b ≠ 48 := fun e => h0 (by simp [e])
    simp [strip, e]
theorem strip_nil {l : List UInt8} (h : ¬ 0 < l.length) : strip l = l := by
  cases l with
  | nil => rfl
  | cons b l => simp at h
theorem lead_digits : ∀ (l : List UInt8), Digits (l.take (lead isD l))
  | [] => by intro b hb; simp at hb
  | c :: l => by
    rw [lead_cons]
    by_cases h : isD c.toNat = true
    · rw [if_pos h, List.take_succ_cons]
      intro b hb
      rcases List.mem_cons.mp hb with rfl | hb
      · unfold isD at h; simp at h; omega
      · exact lead_digits l b hb
    · rw [if_neg h]; intro b hb; simp at hb

/-- One round: words, numbers, and the rest. -/
theorem verC_round (a b : List UInt8) (i j : Nat) (hi : i = lead isNo a) (hj : j = lead isNo b) :
    verC a b = if wordC (a.take i) (b.take j) = 0 then
        (if numC ((a.drop i).take (lead isD (a.drop i))) ((b.drop j).take (lead isD (b.drop j))) = 0 then
          verC ((a.drop i).drop (lead isD (a.drop i))) ((b.drop j).drop (lead isD (b.drop j)))
         else numC ((a.drop i).take (lead isD (a.drop i))) ((b.drop j).take (lead isD (b.drop j))))
      else wordC (a.take i) (b.take j) := by
  subst hi hj
  rw [numC_eq (lead_digits _) (lead_digits _)]
  unfold verC wordC
  rw [lexC_row1, lexC_row2]
  unfold row
  rw [lexC_words _ _ _ _ (ranks_ne _) (ranks_ne _)]
  simp only [lexC]

theorem less_iff : ∀ (a b : List UInt8), Op.bytesLess a b = decide (Lib.compareBytes a b < 0)
  | [], [] => by simp [Op.bytesLess, Lib.compareBytes]
  | [], _ :: _ => by simp [Op.bytesLess, Lib.compareBytes]
  | _ :: _, [] => by simp [Op.bytesLess, Lib.compareBytes]
  | x :: a, y :: b => by
    unfold Op.bytesLess Lib.compareBytes
    rw [less_iff a b]
    by_cases h : x < y
    · simp [h]
    · by_cases h2 : y < x
      · have hne : x ≠ y := fun e => by subst e; exact h h2
        simp [h, h2, hne]
      · have he : x = y := UInt8.toNat_inj.mp (by rw [UInt8.lt_iff_toNat_lt] at h h2; omega)
        simp [he]
theorem same_iff : ∀ (a b : List UInt8), (a == b) = decide (Lib.compareBytes a b = 0)
  | [], [] => by simp [Lib.compareBytes]
  | [], _ :: _ => by simp [Lib.compareBytes]
  | _ :: _, [] => by simp [Lib.compareBytes]
  | x :: a, y :: b => by
    unfold Lib.compareBytes
    have ih := same_iff a b
    by_cases h : x < y
    · have hne : x ≠ y := fun e => by subst e; rw [UInt8.lt_iff_toNat_lt] at h; omega
      simp [h, hne]
    · by_cases h2 : y < x
      · have hne : x ≠ y := fun e => by subst e; exact h h2
        simp [h, h2, hne]
      · have he : x = y := UInt8.toNat_inj.mp (by rw [UInt8.lt_iff_toNat_lt] at h h2; omega)
        subst he
        simp only [h, if_false]
        rw [← ih]
        simp
theorem rkR_bd (b : UInt8) : -1 ≤ rkR b.toNat ∧ rkR b.toNat ≤ 1255 ∧ rkR b.toNat ≠ 0 := by
  unfold rkR isLt; have := b.toNat_lt; split
  · omega
  · split
    · rename_i h; simp at h; omega
    · omega
theorem rk_rkR (a b : UInt8) : cmpI (rkR a.toNat) (rkR b.toNat) = cmpI (rk a.toNat) (rk b.toNat) := by
  have ha := a.toNat_lt; have hb := b.toNat_lt
  unfold rkR rk isLt
  by_cases h1 : (a.toNat : Int) = 126 <;> by_cases h2 : (b.toNat : Int) = 126 <;>
    by_cases h3 : ((97 ≤ (a.toNat : Int) ∧ (a.toNat : Int) ≤ 122) ∨ (65 ≤ (a.toNat : Int) ∧ (a.toNat : Int) ≤ 90)) <;>
    by_cases h4 : ((97 ≤ (b.toNat : Int) ∧ (b.toNat : Int) ≤ 122) ∨ (65 ≤ (b.toNat : Int) ∧ (b.toNat : Int) ≤ 90)) <;>
    simp only [h1, h2, h3, h4, decide_true, decide_false, if_true, if_false, Bool.false_eq_true] <;> exact cmpI_congr (by omega) (by omega)
theorem rk_rkR0 (a : UInt8) : cmpI (rkR a.toNat) 0 = cmpI (rk a.toNat) 0 := by
  have ha := a.toNat_lt
  unfold rkR rk isLt
  by_cases h1 : (a.toNat : Int) = 126 <;>
    by_cases h3 : ((97 ≤ (a.toNat : Int) ∧ (a.toNat : Int) ≤ 122) ∨ (65 ≤ (a.toNat : Int) ∧ (a.toNat : Int) ≤ 90)) <;>
    simp only [h1, h3, decide_true, decide_false, if_true, if_false, Bool.false_eq_true] <;> exact cmpI_congr (by omega) (by omega)
theorem cmpI_sub (x y : Int) : cmpI (x - y) 0 = cmpI x y := cmpI_congr (by omega) (by omega)
theorem rkAt_in {l : List UInt8} {n k : Nat} (h : k < n) (hl : k < l.length) : rkAt (l.take n) k = rk (l[k]).toNat := by
  unfold rkAt ranks
  rw [List.getD_eq_getElem?_getD, List.getElem?_map, List.getElem?_take, if_pos h, List.getElem?_eq_getElem hl]
  rfl
theorem rkAt_out {l : List UInt8} {n k : Nat} (h : n ≤ k) : rkAt (l.take n) k = 0 := by
  unfold rkAt ranks
  rw [List.getD_eq_getElem?_getD, List.getElem?_eq_none (by simp; omega)]
  rfl
theorem nought_digits {l : List UInt8} (h : Digits l) : Digits (48 :: l) := fun b hb => by
  rcases List.mem_cons.mp hb with rfl | hb
  · exact ⟨by decide, by decide⟩
  · exact h b hb
theorem verC_bd (a b : List UInt8) : -1 ≤ verC a b ∧ verC a b ≤ 1 := lexC_bd _ _
theorem verC_self (a : List UInt8) : verC a a = 0 := lexC_self _
theorem verC_neg (a b : List UInt8) : verC a b = - verC b a := lexC_neg _ _
theorem verC_trans (a b c : List UInt8) (h : verC a b ≤ 0) (k : verC b c ≤ 0) : verC a c ≤ 0 ∧ (verC a c = 0 ↔ verC a b = 0 ∧ verC b c = 0) :=
  lexC_trans _ _ _ _ (Nat.le_refl _) h k
theorem verC_19_110 : verC [49, 46, 57] [49, 46, 49, 48] = -1 := by
  rw [verC_round _ _ 0 0 (by decide) (by decide), if_pos (by simp [wordC, ranks, lexC]), if_pos (by decide)]
  show verC [46, 57] [46, 49, 48] = -1
  rw [verC_round _ _ 1 1 (by decide) (by decide), if_pos (by simp [wordC, lexC_self]), if_neg (by decide)]
  decide
theorem verC_2_1 : verC [50] [49, 126] = 1 := by
  rw [verC_round _ _ 0 0 (by decide) (by decide), if_pos (by simp [wordC, ranks, lexC]), if_neg (by decide)]
  decide

end M
end Go.Proofs.YtgnfknjopafngaaDoor
