import Derived.Test.YtgnfknjopafngaaGreatDoorPlD
/-
  THE PLAIN MATHEMATICS OF PLANS, 6: paths that clash, by how many packages have each. Nothing of the program is imported here.
-/
namespace Go.Proofs.YtgnfknjopafngaaGreatDoor
namespace M

def pathsOf (l : List Pk) : List (List UInt8) := l.flatMap fun p => p.files.map Fl.path
theorem mem_paths {l : List Pk} {x : List UInt8} : x ∈ pathsOf l ↔ ∃ p ∈ l, ∃ f ∈ p.files, f.path = x := by
  unfold pathsOf
  simp only [List.mem_flatMap, List.mem_map]
theorem Good.once {p : Pk} (h : Good p) (x : List UInt8) : (p.files.map Fl.path).count x ≤ 1 := by
  have hn : (p.files.map Fl.path).Nodup := by
    unfold List.Nodup
    rw [List.pairwise_map]
    refine h.files.imp (fun {f g} ha e => ?_)
    unfold M.apart at ha
    rw [e] at ha
    simp at ha
  exact List.nodup_iff_count.1 hn x
def Shared (l : List Pk) (x : List UInt8) : Prop := 1 < (pathsOf l).count x ∨ (x ∈ pathsOf l ∧ ∃ y ∈ pathsOf l, over x y = true)
theorem count_two {x : List UInt8} : ∀ {l : List Pk}, Apart l → (∀ p ∈ l, Good p) → (1 < (pathsOf l).count x ↔ ∃ p ∈ l, ∃ q ∈ l, p.name ≠ q.name ∧ (∃ f ∈ p.files, f.path = x) ∧ ∃ g ∈ q.files, g.path = x)
  | [], _, _ => by simp [pathsOf]
  | p :: l, ha, hg => by
    have hal : Apart l := (List.nodup_cons.1 (show (p.name :: l.map Pk.name).Nodup from ha)).2
    have hpn : ∀ q ∈ l, p.name ≠ q.name := fun q hq e => (List.nodup_cons.1 (show (p.name :: l.map Pk.name).Nodup from ha)).1 (List.mem_map.2 ⟨q, hq, e.symm⟩)
    have ih := count_two (x := x) hal (fun q hq => hg q (by simp [hq]))
    have e : (pathsOf (p :: l)).count x = (p.files.map Fl.path).count x + (pathsOf l).count x := by
      unfold pathsOf
      rw [List.flatMap_cons, List.count_append]
    have h1 := (hg p (by simp)).once x
    have hp : 0 < (p.files.map Fl.path).count x ↔ ∃ f ∈ p.files, f.path = x := by
      rw [List.count_pos_iff, List.mem_map]
    have hl : 0 < (pathsOf l).count x ↔ ∃ q ∈ l, ∃ f ∈ q.files, f.path = x := by rw [List.count_pos_iff, mem_paths]
    rw [e]
    constructor
    · intro h
      by_cases h2 : 1 < (pathsOf l).count x
      · obtain ⟨a, ha, b, hb, r⟩ := ih.1 h2
        exact ⟨a, by simp [ha], b, by simp [hb], r⟩
      · obtain ⟨q, hq, hf⟩ := hl.1 (by omega)
        exact ⟨p, by simp, q, by simp [hq], hpn q hq, hp.1 (by omega), hf⟩
    · rintro ⟨a, ha, b, hb, hne, hfa, hfb⟩
      rcases List.mem_cons.1 ha with e1 | ha1
      · rcases List.mem_cons.1 hb with e2 | hb1
        · exact absurd (by rw [e1, e2]) hne
        · subst e1
          have := hp.2 hfa
          have := hl.2 ⟨b, hb1, hfb⟩
          omega
      · rcases List.mem_cons.1 hb with e2 | hb1
        · subst e2
          have := hp.2 hfb
          have := hl.2 ⟨a, ha1, hfa⟩
          omega
        · have := ih.2 ⟨a, ha1, b, hb1, hne, hfa, hfb⟩
          omega
theorem shared_iff {l : List Pk} {x : List UInt8} (ha : Apart l) (hg : ∀ p ∈ l, Good p) : Shared l x ↔ Clashes l x := by
  unfold Shared Clashes
  rw [count_two ha hg, mem_paths]
  constructor
  · rintro (⟨p, hp, q, hq, hne, ⟨f, hf, e⟩, ⟨g, hg, e'⟩⟩ | ⟨⟨p, hp, f, hf, e⟩, y, hy, ho⟩)
    · exact ⟨p, hp, q, hq, f, hf, g, hg, .inr ⟨e.trans e'.symm, hne⟩, e.symm⟩
    · obtain ⟨q, hq, g, hg, e'⟩ := mem_paths.1 hy
      subst e e'
      exact ⟨p, hp, q, hq, f, hf, g, hg, .inl ho, rfl⟩
  · rintro ⟨p, hp, q, hq, f, hf, g, hg, h | ⟨h, hne⟩, rfl⟩
    · exact .inr ⟨⟨p, hp, f, hf, rfl⟩, g.path, mem_paths.2 ⟨q, hq, g, hg, rfl⟩, h⟩
    · exact .inl ⟨p, hp, q, hq, hne, ⟨f, hf, rfl⟩, ⟨g, hg, h.symm⟩⟩
theorem shared_min {l : List Pk} (ha : Apart l) (hg : ∀ p ∈ l, Good p) : IsMin (Shared l) (clashingS l) :=
  (clashing_min ha (fun p hp => (hg p hp).paths)).congr (fun _ => (shared_iff ha hg).symm)
theorem paths_perm {l k : List Pk} (h : l.Perm k) (x : List UInt8) : (pathsOf l).count x = (pathsOf k).count x := (h.flatMap_right _).count_eq x
theorem shared_perm {l k : List Pk} (h : l.Perm k) (x : List UInt8) : Shared l x ↔ Shared k x := by
  have hm : ∀ y, y ∈ pathsOf l ↔ y ∈ pathsOf k := fun y => (h.flatMap_right _).mem_iff
  unfold Shared
  rw [paths_perm h, hm]
  refine or_congr Iff.rfl (and_congr Iff.rfl ⟨fun ⟨y, hy, r⟩ => ⟨y, (hm y).1 hy, r⟩, fun ⟨y, hy, r⟩ => ⟨y, (hm y).2 hy, r⟩⟩)
/-- Which of the packages is what is asked for: the one of that name alone. -/
theorem any1_one {l : List Pk} (ha : Apart l) {p : Pk} (hp : p ∈ l) (c : Ch) (hc : c.name = p.name) : l.any (fun q => fitsS c q) = fitsS c p := by
  cases h : fitsS c p with
  | true => exact List.any_eq_true.2 ⟨p, hp, h⟩
  | false =>
    rw [List.any_eq_false]
    intro q hq hf
    have : c.name = q.name := by
      unfold fitsS at hf
      split at hf
      · assumption
      · cases hf
    have e := ha.eq hp hq (hc.symm.trans this)
    subst e
    rw [h] at hf
    cases hf
theorem any1_none {l : List Pk} (c : Ch) (h : ∀ p ∈ l, p.name ≠ c.name) : l.any (fun q => fitsS c q) = false := by
  rw [List.any_eq_false]
  intro q hq hf
  unfold fitsS at hf
  split at hf
  · rename_i e; exact h q hq e.symm
  · cases hf
end M
end Go.Proofs.YtgnfknjopafngaaGreatDoor
/-
  THE PLAIN MATHEMATICS OF PLANS, 7: names in their order; texts by name. Nothing of the program is imported here.
-/
namespace Go.Proofs.YtgnfknjopafngaaGreatDoor
namespace M

def insN (x : List UInt8) : List (List UInt8) → List (List UInt8)
  | [] => [x]
  | y :: r => if Op.bytesLess x y = true then x :: y :: r else y :: insN x r
def sortN (l : List (List UInt8)) : List (List UInt8) := l.foldr insN []
theorem insN_perm (x : List UInt8) : ∀ r, (insN x r).Perm (x :: r)
  | [] => .refl _
  | y :: r => by
    unfold insN
    split
    · exact .refl _
    · exact ((insN_perm x r).cons y).trans (.swap _ _ _)
theorem sortN_perm : ∀ l, (sortN l).Perm l
  | [] => .refl _
  | x :: l => (insN_perm x (sortN l)).trans ((sortN_perm l).cons x)
theorem insN_rising {x : List UInt8} : ∀ {r : List (List UInt8)}, Rising r → x ∉ r → Rising (insN x r)
  | [], _, _ => by simp [insN, Rising]
  | y :: r, h, hx => by
    obtain ⟨h1, h2⟩ := List.pairwise_cons.1 h
    unfold insN
    split
    · rename_i hl
      refine List.pairwise_cons.2 ⟨fun z hz => ?_, h⟩
      rcases List.mem_cons.1 hz with rfl | hz
      · exact hl
      · exact less_trans hl (h1 z hz)
    · rename_i hl
      have hyx : Op.bytesLess y x = true := by
        cases hb : Op.bytesLess y x with
        | true => rfl
        | false => exact absurd (less_total hb (by simpa using hl)) (fun e => hx (by simp [e]))
      refine List.pairwise_cons.2 ⟨fun z hz => ?_, insN_rising h2 (fun hm => hx (by simp [hm]))⟩
      rcases List.mem_cons.1 ((insN_perm x r).mem_iff.1 hz) with rfl | hz
      · exact hyx
      · exact h1 z hz
theorem sortN_rising : ∀ {l : List (List UInt8)}, l.Nodup → Rising (sortN l)
  | [], _ => List.Pairwise.nil
  | x :: l, h => by
    obtain ⟨h1, h2⟩ := List.nodup_cons.1 h
    exact insN_rising (sortN_rising h2) (fun hm => h1 ((sortN_perm l).mem_iff.1 hm))
/-- Two that have the same members are sorted alike. -/
theorem sortN_eq {l k : List (List UInt8)} (hl : l.Nodup) (hk : k.Nodup) (h : ∀ x, x ∈ l ↔ x ∈ k) : sortN l = sortN k :=
  Rising.eq (sortN_rising hl) (sortN_rising hk) (fun x => by rw [(sortN_perm l).mem_iff, (sortN_perm k).mem_iff, h])
/-- The first name behind another. -/
def nextS (l : List Pk) (last : List UInt8) : List UInt8 := l.foldl (fun n p => if Op.bytesLess last p.name = true then firstS n p.name else n) []
theorem next_min {l : List Pk} (last : List UInt8) (hn : ∀ p ∈ l, p.name ≠ []) : IsMin (fun x => ∃ p ∈ l, Op.bytesLess last p.name = true ∧ x = p.name) (nextS l last) := by
  unfold nextS
  refine IsMin.fold0 l (fun n p S hp h => ?_)
  by_cases hb : Op.bytesLess last p.name = true
  · rw [if_pos hb]
    exact (h.add (hn p hp)).congr (fun x => by simp [hb])
  · rw [if_neg hb]
    exact h.skip (fun x k => hb k.1)
def lastOf (r : List (List UInt8)) : Nat → List UInt8
  | 0 => []
  | m + 1 => (r[m]?).getD []
theorem next_is {l : List Pk} (ha : Apart l) (hn : ∀ p ∈ l, p.name ≠ []) {m : Nat} (hm : m < l.length) :
    ∃ x, (sortN (l.map Pk.name))[m]? = some x ∧ nextS l (lastOf (sortN (l.map Pk.name)) m) = x := by
  have hr := sortN_rising ha
  have hp := sortN_perm (l.map Pk.name)
  have hlen : (sortN (l.map Pk.name)).length = l.length := by rw [hp.length_eq, List.length_map]
  generalize sortN (l.map Pk.name) = r at hr hp hlen
  have hmr : m < r.length := by omega
  refine ⟨r[m], List.getElem?_eq_getElem hmr, ?_⟩
  refine (next_min _ hn).unique ⟨(next_min _ hn).1, .inr ⟨?_, ?_⟩⟩
  · obtain ⟨p, hp', e⟩ := List.mem_map.1 (hp.mem_iff.1 (List.getElem_mem hmr))
    refine ⟨p, hp', ?_, e.symm⟩
    cases m with
    | zero =>
      unfold lastOf
      rw [e]
      cases h : r[0] with
      | nil => exact absurd (e.trans h) (hn p hp')
      | cons a b => rfl
    | succ m =>
      show Op.bytesLess ((r[m]?).getD []) p.name = true
      rw [List.getElem?_eq_getElem (by omega), e]
      exact List.pairwise_iff_getElem.1 hr m (m + 1) (by omega) hmr (by omega)
  · rintro x ⟨p, hp', hb, rfl⟩
    have hx : p.name ∈ r := hp.mem_iff.2 (List.mem_map.2 ⟨p, hp', rfl⟩)
    obtain ⟨j, hj, e⟩ := List.getElem_of_mem hx
    rw [← e] at hb ⊢
    rcases Nat.lt_trichotomy j m with h | h | h
    · cases m with
      | zero => omega
      | succ m =>
        replace hb : Op.bytesLess ((r[m]?).getD []) r[j] = true := hb
        rw [List.getElem?_eq_getElem (by omega)] at hb
        have : Op.bytesLess r[m] r[j] = false := by
          by_cases e2 : j = m
          · subst e2; exact less_irrefl _
          · exact less_asymm (List.pairwise_iff_getElem.1 hr j m hj (by omega) (by omega))
        simp only [Option.getD_some] at hb
        rw [this] at hb
        cases hb
    · subst h; exact less_irrefl _
    · exact less_asymm (List.pairwise_iff_getElem.1 hr m j hmr hj h)
/-- The text of the package of a name. -/
def textOf (l : List Pk) (n : List UInt8) : List UInt8 := match l.find? (fun p => p.name == n) with
  | some p => printS p
  | none => []
def textsS (l : List Pk) : List (List UInt8) := (sortN (l.map Pk.name)).map (textOf l)
theorem textOf_mem {l : List Pk} (ha : Apart l) {p : Pk} (hp : p ∈ l) : textOf l p.name = printS p := by
  unfold textOf
  cases h : l.find? (fun q => q.name == p.name) with
  | none =>
    have := List.find?_eq_none.1 h p hp
    simp at this
  | some q =>
    have h1 := List.find?_some h
    have h2 := List.mem_of_find?_eq_some h
    have e := ha.eq h2 hp (by simpa using h1)
    rw [e]
theorem texts_perm {l k : List Pk} (ha : Apart l) (h : l.Perm k) : textsS l = textsS k := by
  have hk := ha.perm h
  unfold textsS
  rw [sortN_eq ha hk (fun x => (h.map Pk.name).mem_iff)]
  refine List.map_congr_left (fun x hx => ?_)
  obtain ⟨p, hp, rfl⟩ := List.mem_map.1 ((sortN_perm _).mem_iff.1 hx)
  rw [textOf_mem hk hp, textOf_mem ha (h.mem_iff.2 hp)]
end M
end Go.Proofs.YtgnfknjopafngaaGreatDoor
/-
  PURE: a name laid into names that rise, at its place.
-/
namespace Go.Proofs.YtgnfknjopafngaaGreatDoor
namespace M

def placeS (y : List UInt8) : List (List UInt8) → Nat
  | [] => 0
  | a :: r => if Op.bytesLess a y = true then placeS y r + 1 else 0
def insS (y : List UInt8) : List (List UInt8) → List (List UInt8)
  | [] => [y]
  | a :: r => if Op.bytesLess a y = true then a :: insS y r else y :: a :: r
theorem place_le (y : List UInt8) : ∀ xs : List (List UInt8), placeS y xs ≤ xs.length
  | [] => Nat.le_refl _
  | a :: r => by
    unfold placeS
    have := place_le y r
    split <;> simp <;> omega
theorem ins_eq (y : List UInt8) : ∀ xs : List (List UInt8), insS y xs = xs.take (placeS y xs) ++ y :: xs.drop (placeS y xs)
  | [] => rfl
  | a :: r => by
    unfold insS placeS
    have := ins_eq y r
    split
    · simp [this]
    · simp
theorem place_lt (y : List UInt8) : ∀ (xs : List (List UInt8)) (t : Nat) (ht : t < xs.length), t < placeS y xs → Op.bytesLess xs[t] y = true
  | [], t, ht, _ => absurd ht (Nat.not_lt_zero _)
  | a :: r, t, ht, h => by
    unfold placeS at h
    split at h
    · cases t with
      | zero => simpa
      | succ t => simpa using place_lt y r t (by simpa using ht) (by omega)
    · omega
theorem place_ge (y : List UInt8) : ∀ (xs : List (List UInt8)) (_ : Rising xs) (t : Nat) (ht : t < xs.length), placeS y xs ≤ t → Op.bytesLess xs[t] y = false
  | [], _, t, ht, _ => absurd ht (Nat.not_lt_zero _)
  | a :: r, hr, t, ht, h => by
    have hr' := List.pairwise_cons.1 hr
    unfold placeS at h
    split at h
    · cases t with
      | zero => omega
      | succ t => simpa using place_ge y r hr'.2 t (by simpa using ht) (by omega)
    · rename_i hna
      have hna : Op.bytesLess a y = false := by simpa using hna
      cases t with
      | zero => simpa using hna
      | succ t =>
        have ht' : t < r.length := by simpa using ht
        show Op.bytesLess r[t] y = false
        cases hq : Op.bytesLess r[t] y with
        | false => rfl
        | true => rw [less_trans (hr'.1 _ (List.getElem_mem ht')) hq] at hna; cases hna
theorem ins_mem (y x : List UInt8) : ∀ xs : List (List UInt8), x ∈ insS y xs ↔ x = y ∨ x ∈ xs
  | [] => by simp [insS]
  | a :: r => by
    unfold insS
    have := ins_mem y x r
    split
    · rw [List.mem_cons, this, List.mem_cons]
      constructor
      · rintro (h | h | h)
        · exact .inr (.inl h)
        · exact .inl h
        · exact .inr (.inr h)
      · rintro (h | h | h)
        · exact .inr (.inl h)
        · exact .inl h
        · exact .inr (.inr h)
    · rw [List.mem_cons]
theorem ins_length (y : List UInt8) : ∀ xs : List (List UInt8), (insS y xs).length = xs.length + 1
  | [] => rfl
  | a :: r => by
    unfold insS
    have := ins_length y r
    split
    · simp [this]
    · simp
theorem ins_rising (y : List UInt8) : ∀ xs : List (List UInt8), Rising xs → y ∉ xs → Rising (insS y xs)
  | [], _, _ => by simp [insS, Rising]
  | a :: r, hr, hy => by
    have hr' := List.pairwise_cons.1 hr
    have hya : y ≠ a := fun e => hy (by simp [e])
    have hyr : y ∉ r := fun e => hy (by simp [e])
    unfold insS
    split
    · rename_i h
      refine List.pairwise_cons.2 ⟨fun x hx => ?_, ins_rising y r hr'.2 hyr⟩
      rcases (ins_mem y x r).1 hx with rfl | hx
      · exact h
      · exact hr'.1 x hx
    · rename_i h
      have h : Op.bytesLess a y = false := by simpa using h
      have hlt : Op.bytesLess y a = true := by
        cases hq : Op.bytesLess y a with
        | true => rfl
        | false => exact absurd (less_total hq h) hya
      refine List.pairwise_cons.2 ⟨fun x hx => ?_, hr⟩
      rcases List.mem_cons.1 hx with rfl | hx
      · exact hlt
      · exact less_trans hlt (hr'.1 x hx)
end M
end Go.Proofs.YtgnfknjopafngaaGreatDoor
