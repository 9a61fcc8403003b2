import Derived.Test.YtgnfknjopafngaaGreatDoorKfp
namespace Go.Proofs.YtgnfknjopafngaaGreatDoor
open Go.RowKit
structure One (w W : World) (nv bv fv : Value) : Prop where
  b : Below w.heap.size w W
  c2 : W.cell? ⟨w.heap.size, 2, none⟩ = some nv
  c3 : W.cell? ⟨w.heap.size, 3, none⟩ = some bv
  c4 : W.cell? ⟨w.heap.size, 4, none⟩ = some fv
  lt : w.heap.size < W.heap.size
theorem One.below {w W W' : World} {nv bv fv : Value} (h : One w W nv bv fv) (hb : Below W.heap.size W W') : One w W' nv bv fv :=
  ⟨bt h.b hb, (hb.cell (p := ⟨w.heap.size, 2, none⟩) h.lt).trans h.c2, (hb.cell (p := ⟨w.heap.size, 3, none⟩) h.lt).trans h.c3, (hb.cell (p := ⟨w.heap.size, 4, none⟩) h.lt).trans h.c4, Nat.lt_of_lt_of_le h.lt hb.size⟩
theorem One.push {w W W' : World} {nv bv fv L : Value} {o : Obj} {n : Nat} {xs : List Value} (h : One w W nv bv fv) (ho : W.ownsRow (w.heap.size + 1) 9 1 L n xs) (hg : (W.alloc o).grownBy W' L.ownBlock) : One w W' nv bv fv := by
  have h1 := h.below ((Below.refl _ W).alloc (Nat.le_refl _) o)
  have hne : some w.heap.size ≠ L.ownBlock := fun e => by have := (ho.lt _ e.symm).1; omega
  have k := fun j => (grown_keep hg w.heap.size h1.lt hne j).1
  refine ⟨h1.b.grown hg (Nat.le_of_lt h1.lt) (fun j hj => by have := (ho.lt j hj).1; omega), (k 2).trans h1.c2, (k 3).trans h1.c3, (k 4).trans h1.c4, Nat.lt_of_lt_of_le h1.lt hg.size⟩
theorem own_lit (w : World) (B : Nat) (X : Value) (t : TypeId) (hb : B ≤ w.heap.size) : (w.alloc (.cells #[X] t)).ownsRow B t 1 (.slice (some ⟨w.heap.size, 0, none⟩) 1 1) 1 [X] :=
  ⟨by simp, .inr ⟨w.heap.size, 1, #[X], rfl, hb, heap_alloc_new w _, Nat.le_refl _, by unfold maxLen; omega, by simp, by simp⟩⟩
theorem files_join : ∀ l : List M.Fl, l ≠ [] → 10 :: M.joinS [10] (l.map flText) = l.flatMap M.fileText
  | [], h => absurd rfl h
  | [f], _ => by simp [M.joinS, flText, M.fileText]
  | f :: g :: r, _ => by
    have ih := files_join (g :: r) (by simp)
    rw [List.flatMap_cons, ← ih]
    simp [M.joinS, flText, M.fileText]
def needsPart (p : M.Pk) : List (List UInt8) := if p.needs = [] then [] else [M.needsW ++ M.joinS [44, 32] (p.needs.map (M.printedS [32, 124, 32]))]
def barsPart (p : M.Pk) : List (List UInt8) := if p.bars = [] then [] else [M.barsW ++ M.printedS [44, 32] p.bars]
def filesPart (p : M.Pk) : List (List UInt8) := if p.files = [] then [] else [M.joinS [10] (p.files.map flText)]
theorem print_is (p : M.Pk) : M.joinS [10] (([M.headS p] ++ needsPart p) ++ barsPart p ++ filesPart p) = M.printS p := by
  have e0 : M.printS p = M.headS p ++ M.needsText p.needs ++ M.barsText p.bars ++ p.files.flatMap M.fileText := rfl
  rw [e0]
  unfold needsPart barsPart filesPart M.needsText M.barsText
  by_cases h1 : p.needs = [] <;> by_cases h2 : p.bars = [] <;> by_cases h3 : p.files = [] <;> simp [h1, h2, h3, M.joinS, M.needsW, M.barsW, ← files_join]
theorem needsPart_len (p : M.Pk) (h : ShortP p) : ∀ x ∈ needsPart p, x.length ≤ 1000000000000 := by
  intro x hx
  unfold needsPart at hx
  split at hx
  · simp at hx
  · simp only [List.mem_singleton] at hx
    subst hx
    have h1 := joinS_len [44, 32] 400000000 (p.needs.map (M.printedS [32, 124, 32])) (fun y hy => by
      obtain ⟨c, hcm, rfl⟩ := List.mem_map.1 hy
      exact printed_len c (h.needs c hcm))
    rw [List.length_map] at h1
    have h2 : p.needs.length * (400000000 + [44, 32].length) ≤ 1000 * (400000000 + [44, 32].length) := Nat.mul_le_mul_right _ h.needn
    simp only [List.length_append, List.length_cons, List.length_nil, M.needsW] at h1 h2 ⊢
    omega
theorem barsPart_len (p : M.Pk) (h : ShortP p) : ∀ x ∈ barsPart p, x.length ≤ 1000000000000 := by
  intro x hx
  unfold barsPart at hx
  split at hx
  · simp at hx
  · simp only [List.mem_singleton] at hx
    subst hx
    have h1 := joinS_len [44, 32] 300010 (p.bars.map M.chText) (fun y hy => by
      obtain ⟨c, hcm, rfl⟩ := List.mem_map.1 hy
      have := h.bars.2 c hcm
      exact chText_len c this.1 this.2.1 this.2.2)
    rw [List.length_map] at h1
    have h2 : p.bars.length * (300010 + [44, 32].length) ≤ 1000 * (300010 + [44, 32].length) := Nat.mul_le_mul_right _ h.bars.1
    unfold M.printedS
    simp only [List.length_append, List.length_cons, List.length_nil, M.barsW] at h1 h2 ⊢
    omega
theorem filesPart_len (p : M.Pk) (h : ShortP p) : ∀ x ∈ filesPart p, x.length ≤ 1000000000000 := by
  intro x hx
  unfold filesPart at hx
  split at hx
  · simp at hx
  · simp only [List.mem_singleton] at hx
    subst hx
    have h1 := joinS_len [10] 300000 (p.files.map flText) (fun y hy => by
      obtain ⟨c, hcm, rfl⟩ := List.mem_map.1 hy
      have := h.files c hcm
      unfold flText
      simp only [List.length_append, List.length_cons, List.length_nil]
      omega)
    rw [List.length_map] at h1
    have h2 : p.files.length * (300000 + [10].length) ≤ 1000 * (300000 + [10].length) := Nat.mul_le_mul_right _ h.filen
    simp only [List.length_cons, List.length_nil] at h1 h2
    omega
theorem parts_len (p : M.Pk) (h : ShortP p) : (M.joinS [10] (([M.headS p] ++ needsPart p) ++ barsPart p ++ filesPart p)).length ≤ 100000000000000 ∧ (([M.headS p] ++ needsPart p) ++ barsPart p ++ filesPart p).length ≤ 4 := by
  have l1 : (needsPart p).length ≤ 1 := by unfold needsPart; split <;> simp
  have l2 : (barsPart p).length ≤ 1 := by unfold barsPart; split <;> simp
  have l3 : (filesPart p).length ≤ 1 := by unfold filesPart; split <;> simp
  have hn : (([M.headS p] ++ needsPart p) ++ barsPart p ++ filesPart p).length ≤ 4 := by simp only [List.length_append, List.length_cons, List.length_nil]; omega
  refine ⟨?_, hn⟩
  have h1 := joinS_len [10] 1000000000000 (([M.headS p] ++ needsPart p) ++ barsPart p ++ filesPart p) (fun x hx => by
    rcases List.mem_append.1 hx with hx | hx
    · rcases List.mem_append.1 hx with hx | hx
      · rcases List.mem_append.1 hx with hx | hx
        · simp only [List.mem_singleton] at hx
          subst hx
          have := h.name
          have := h.ver
          unfold M.headS
          simp only [List.length_append, List.length_cons, List.length_nil]
          omega
        · exact needsPart_len p h x hx
      · exact barsPart_len p h x hx
    · exact filesPart_len p h x hx)
  have h2 := Nat.mul_le_mul_right (1000000000000 + [10].length) hn
  simp only [List.length_cons, List.length_nil] at h1 h2
  omega
end Go.Proofs.YtgnfknjopafngaaGreatDoor
