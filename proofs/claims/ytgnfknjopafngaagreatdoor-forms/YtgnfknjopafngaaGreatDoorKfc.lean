import Derived.Lib.SplitLaws
import Derived.Test.YtgnfknjopafngaaGreatDoorKfb
import Derived.Test.YtgnfknjopafngaaGreatDoorKfa
namespace Go.Proofs.YtgnfknjopafngaaGreatDoor
open Go
theorem cutA_index {sep : List UInt8} (hs : sep ≠ []) : ∀ (rest : List UInt8) (n : Nat) (cur : List UInt8), rest.length ≤ n →
    M.cutA sep n cur rest = if Lib.index rest sep = -1 then [cur ++ rest] else (cur ++ rest.take (Lib.index rest sep).toNat) :: M.cutS (rest.drop ((Lib.index rest sep).toNat + sep.length)) sep
  | [], n, cur, _ => by
    have h0 : 0 < sep.length := List.length_pos_iff.2 hs
    rw [M.cutA_stop _ _ _ (by simpa using h0)]
    have : Lib.index [] sep = -1 := by unfold Lib.index; rw [if_neg]; simpa using hs
    rw [if_pos this]
  | b :: l, n, cur, hn => by
    have h0 : 0 < sep.length := List.length_pos_iff.2 hs
    by_cases hp : sep.isPrefixOf (b :: l) = true
    · have e : Lib.index (b :: l) sep = 0 := by unfold Lib.index; rw [if_pos hp]
      have hpre := List.isPrefixOf_iff_prefix.1 hp
      have hlen := hpre.length_le
      rw [e, if_neg (by decide)]
      have ht : (b :: l).take sep.length = sep := (List.prefix_iff_eq_take.1 hpre).symm
      rw [M.cutA_hit h0 n _ cur (b :: l) hn (Nat.le_refl _) (by omega) ht]
      simp [M.cutS]
    · have ei : Lib.index (b :: l) sep = if Lib.index l sep == -1 then -1 else Lib.index l sep + 1 := by rw [Lib.index, if_neg hp]
      have hge := Lib.index_ge l sep
      have key : M.cutA sep n cur (b :: l) = M.cutA sep l.length (cur ++ [b]) l := by
        by_cases hlt : (b :: l).length < sep.length
        · rw [M.cutA_stop _ _ _ hlt, M.cutA_stop _ _ _ (by simp at hlt; omega)]; simp
        · have ht : ¬ (b :: l).take sep.length = sep := fun e => hp (List.isPrefixOf_iff_prefix.2 (by rw [List.prefix_iff_eq_take]; exact e.symm))
          rw [M.cutA_miss h0 n l.length cur (b :: l) hn (by simp) hlt ht]
          rfl
      rw [key, cutA_index hs l l.length (cur ++ [b]) (Nat.le_refl _), ei]
      by_cases h1 : Lib.index l sep = -1
      · rw [if_pos h1, if_pos (by rw [h1]; rfl)]; simp
      · have hb : ¬ (Lib.index l sep == -1) = true := by simpa using h1
        rw [if_neg h1, if_neg hb, if_neg (by omega)]
        have e2 : (Lib.index l sep + 1).toNat = (Lib.index l sep).toNat + 1 := by omega
        rw [e2]
        simp [show (Lib.index l sep).toNat + 1 + sep.length = (Lib.index l sep).toNat + sep.length + 1 by omega]
theorem cutS_index {sep : List UInt8} (hs : sep ≠ []) (s : List UInt8) :
    M.cutS s sep = if Lib.index s sep = -1 then [s] else s.take (Lib.index s sep).toNat :: M.cutS (s.drop ((Lib.index s sep).toNat + sep.length)) sep := by
  have := cutA_index hs s s.length [] (Nat.le_refl _)
  rw [List.nil_append, List.nil_append] at this
  exact this
theorem splitK_cut {sep : List UInt8} (hs : sep ≠ []) : ∀ (k : Nat) (s : List UInt8), Lib.count s sep = k → Lib.splitK sep 0 k s = M.cutS s sep
  | 0, s, h => by
    rw [cutS_index hs]
    by_cases h1 : Lib.index s sep = -1
    · rw [if_pos h1]; rfl
    · obtain ⟨i, hi⟩ : ∃ i : Nat, Lib.index s sep = i := ⟨(Lib.index s sep).toNat, by have := Lib.index_ge s sep; omega⟩
      rw [Lib.count_hit hs hi] at h
      omega
  | k + 1, s, h => by
    rw [cutS_index hs]
    by_cases h1 : Lib.index s sep = -1
    · rw [Lib.count_miss h1] at h; omega
    · obtain ⟨i, hi⟩ : ∃ i : Nat, Lib.index s sep = i := ⟨(Lib.index s sep).toNat, by have := Lib.index_ge s sep; omega⟩
      have hb : ¬ (Lib.index s sep == -1) = true := by simpa using h1
      have h2 := Lib.count_hit hs hi
      rw [if_neg h1, Lib.splitK, if_neg hb]
      have e : (Lib.index s sep).toNat = i := by omega
      rw [e, splitK_cut hs k _ (by omega), Nat.add_zero]
theorem split_cut (s sep : ByteArray) (hs : 1 ≤ sep.size) : (Lib.splitB sep 0 (Lib.countB s sep) s).map (fun p => p.data.toList) = M.cutS s.data.toList sep.data.toList := by
  have hs' : sep.data.toList ≠ [] := by
    intro e
    have := congrArg List.length e
    rw [Array.length_toList, ByteArray.size_data, List.length_nil] at this
    omega
  rw [← splitK_cut hs' (Lib.countB s sep) s.data.toList rfl]
  exact Lib.splitB_data sep 0 _ s
theorem index_one_miss {s : List UInt8} {c : UInt8} (h : c ∉ s) : Lib.index s [c] = -1 := by
  induction s with
  | nil => rfl
  | cons b l ih =>
    have h1 : ¬ c = b := fun e => h (by simp [e])
    have h2 : c ∉ l := fun e => h (by simp [e])
    rw [Lib.index, if_neg (by simp [List.isPrefixOf]; exact h1), if_pos (by rw [ih h2]; rfl)]
theorem index_one_hit {a b : List UInt8} {c : UInt8} (h : c ∉ a) : Lib.index (a ++ c :: b) [c] = a.length := by
  induction a with
  | nil => simp [Lib.index, List.isPrefixOf]
  | cons x l ih =>
    have h1 : ¬ c = x := fun e => h (by simp [e])
    have h2 : c ∉ l := fun e => h (by simp [e])
    have := ih h2
    rw [List.cons_append, Lib.index, if_neg (by simp [List.isPrefixOf]; exact h1), this, if_neg (by rw [beq_iff_eq]; omega)]
    simp
theorem first_of {s : List UInt8} {c : UInt8} (h : c ∈ s) : ∃ a b, s = a ++ c :: b ∧ c ∉ a := by
  induction s with
  | nil => simp at h
  | cons x l ih =>
    by_cases hx : c = x
    · exact ⟨[], l, by rw [hx]; rfl, by simp⟩
    · obtain ⟨a, b, e, hn⟩ := ih (by simpa [hx] using h)
      exact ⟨x :: a, b, by rw [e]; rfl, by simp [hx, hn]⟩
theorem cut_miss {s : List UInt8} {c : UInt8} (h : c ∉ s) : Lib.cut s [c] = (s, [], false) ∧ M.cutS s [c] = [s] := by
  have e := index_one_miss h
  constructor
  · unfold Lib.cut; rw [e, if_neg (by decide)]
  · rw [cutS_index (by simp), if_pos e]
theorem cut_hit {a b : List UInt8} {c : UInt8} (h : c ∉ a) : Lib.cut (a ++ c :: b) [c] = (a, b, true) ∧ M.cutS (a ++ c :: b) [c] = a :: M.cutS b [c] := by
  have e := index_one_hit (b := b) h
  constructor
  · unfold Lib.cut; rw [e, if_pos (by omega)]; simp
  · rw [cutS_index (by simp), e, if_neg (by omega)]; simp
theorem cut_cases (s : List UInt8) (c : UInt8) : (c ∉ s ∧ Lib.cut s [c] = (s, [], false) ∧ M.cutS s [c] = [s]) ∨ ∃ a b, s = a ++ c :: b ∧ c ∉ a ∧ Lib.cut s [c] = (a, b, true) ∧ M.cutS s [c] = a :: M.cutS b [c] := by
  by_cases h : c ∈ s
  · obtain ⟨a, b, e, hn⟩ := first_of h
    refine .inr ⟨a, b, e, hn, ?_⟩
    rw [e]
    exact cut_hit hn
  · exact .inl ⟨h, cut_miss h⟩
end Go.Proofs.YtgnfknjopafngaaGreatDoor
namespace Go.Proofs.YtgnfknjopafngaaGreatDoor
open Go
theorem begins_pre (s t : List UInt8) : M.begins s t = Lib.hasPrefix s t := by
  unfold M.begins Lib.hasPrefix
  rw [Bool.eq_iff_iff, Bool.and_eq_true, decide_eq_true_eq, beq_iff_eq, List.isPrefixOf_iff_prefix, List.prefix_iff_eq_take]
  constructor
  · rintro ⟨_, h⟩; exact h.symm
  · intro h
    refine ⟨?_, h.symm⟩
    have := congrArg List.length h
    rw [List.length_take] at this
    omega
theorem pre_split {s t : List UInt8} (h : Lib.hasPrefix s t = true) : s = t ++ s.drop t.length := by
  unfold Lib.hasPrefix at h
  obtain ⟨r, rfl⟩ := List.isPrefixOf_iff_prefix.1 h
  simp
theorem suf_split {s t : List UInt8} (h : Lib.hasSuffix s t = true) : s = s.take (s.length - t.length) ++ t := by
  unfold Lib.hasSuffix at h
  obtain ⟨r, rfl⟩ := List.isSuffixOf_iff_suffix.1 h
  simp
theorem made_no {p : Int → Bool} {a b : Nat} {s : List UInt8} {c : UInt8} (hc : p c.toNat = false) (h : M.made p a b s = true) : c ∉ s := by
  intro hm
  unfold M.made at h
  rw [Bool.and_eq_true, List.all_eq_true] at h
  have := h.1 c hm
  rw [hc] at this
  cases this
theorem ver_no {s : List UInt8} (h : M.isVerS s = true) : (32 : UInt8) ∉ s := by
  unfold M.isVerS at h
  rw [Bool.and_eq_true] at h
  exact made_no (by decide) h.1
def signS (s : List UInt8) : Bool := s == [60, 60] || s == [60, 61] || s == [61] || s == [62, 61] || s == [62, 62]
theorem sign_no {s : List UInt8} (h : signS s = true) : (32 : UInt8) ∉ s ∧ (40 : UInt8) ∉ s := by
  unfold signS at h
  simp only [Bool.or_eq_true, beq_iff_eq] at h
  rcases h with (((rfl | rfl) | rfl) | rfl) | rfl <;> decide
theorem signP_is (x : List UInt8) : M.isSignP (40 :: x) = signS x := by
  unfold M.isSignP signS
  simp
theorem signP_40 {x : List UInt8} (h : M.isSignP x = true) : ∃ y, x = 40 :: y := by
  unfold M.isSignP at h
  simp only [Bool.or_eq_true, beq_iff_eq] at h
  rcases h with (((rfl | rfl) | rfl) | rfl) | rfl <;> exact ⟨_, rfl⟩
def limitC (t : List UInt8) : Option (List UInt8 × List UInt8) :=
  if Lib.hasPrefix t [40] = true ∧ Lib.hasSuffix (Lib.trimPrefix t [40]) [41] = true ∧ (Lib.cut (Lib.trimSuffix (Lib.trimPrefix t [40]) [41]) [32]).2.2 = true ∧ signS (Lib.cut (Lib.trimSuffix (Lib.trimPrefix t [40]) [41]) [32]).1 = true ∧ M.isVerS (Lib.cut (Lib.trimSuffix (Lib.trimPrefix t [40]) [41]) [32]).2.1 = true
  then some ((Lib.cut (Lib.trimSuffix (Lib.trimPrefix t [40]) [41]) [32]).1, (Lib.cut (Lib.trimSuffix (Lib.trimPrefix t [40]) [41]) [32]).2.1) else none
def choiceC (s : List UInt8) : Option M.Ch :=
  if M.isNameS (Lib.cut s [32]).1 = true then
    (if (Lib.cut s [32]).2.2 = true then (match limitC (Lib.cut s [32]).2.1 with
      | none => none
      | some (a, b) => some ⟨(Lib.cut s [32]).1, a, b⟩)
    else some ⟨(Lib.cut s [32]).1, [], []⟩)
  else none
theorem limit_some {sg v : List UInt8} (h1 : signS sg = true) (h2 : M.isVerS v = true) : limitC (40 :: (sg ++ 32 :: (v ++ [41]))) = some (sg, v) := by
  have e1 : Lib.hasPrefix (40 :: (sg ++ 32 :: (v ++ [41]))) [40] = true := by simp [Lib.hasPrefix, List.isPrefixOf]
  have e2 : Lib.trimPrefix (40 :: (sg ++ 32 :: (v ++ [41]))) [40] = sg ++ 32 :: (v ++ [41]) := by unfold Lib.trimPrefix; rw [if_pos e1]; rfl
  have e3 : Lib.hasSuffix (sg ++ 32 :: (v ++ [41])) [41] = true := by
    unfold Lib.hasSuffix; rw [List.isSuffixOf_iff_suffix]; exact ⟨sg ++ 32 :: v, by simp⟩
  have e4 : Lib.trimSuffix (sg ++ 32 :: (v ++ [41])) [41] = sg ++ 32 :: v := by
    unfold Lib.trimSuffix; rw [if_pos e3]
    rw [show sg ++ 32 :: (v ++ [41]) = (sg ++ 32 :: v) ++ [41] by simp]
    rw [List.take_append_of_le_length (by simp)]
    exact List.take_of_length_le (by simp)
  have e5 := (cut_hit (b := v) (sign_no h1).1).1
  unfold limitC
  rw [e2, e4, e5, if_pos ⟨e1, e3, rfl, h1, h2⟩]
theorem limit_inv {t sg v : List UInt8} (h : limitC t = some (sg, v)) : signS sg = true ∧ M.isVerS v = true ∧ t = 40 :: (sg ++ 32 :: (v ++ [41])) := by
  unfold limitC at h
  split at h
  · rename_i hc
    obtain ⟨h1, h2, h3, h4, h5⟩ := hc
    simp only [Option.some.injEq, Prod.mk.injEq] at h
    obtain ⟨rfl, rfl⟩ := h
    refine ⟨h4, h5, ?_⟩
    have e1 := pre_split h1
    have ep : Lib.trimPrefix t [40] = t.drop 1 := by unfold Lib.trimPrefix; rw [if_pos h1]; rfl
    rw [ep] at h2 h3 h4 h5 ⊢
    have e2 := suf_split h2
    have es : Lib.trimSuffix (t.drop 1) [41] = (t.drop 1).take ((t.drop 1).length - 1) := by unfold Lib.trimSuffix; rw [if_pos h2]; rfl
    rw [es] at h3 h4 h5 ⊢
    rcases cut_cases ((t.drop 1).take ((t.drop 1).length - 1)) 32 with ⟨_, e, _⟩ | ⟨a, b, e, _, ec, _⟩
    · rw [e] at h3; cases h3
    · rw [ec]
      show t = 40 :: (a ++ 32 :: (b ++ [41]))
      rw [show ([41] : List UInt8).length = 1 from rfl] at e2
      rw [e] at e2
      rw [show ([40] : List UInt8).length = 1 from rfl, e2] at e1
      rw [e1]; simp
  · cases h
theorem choiceC_is (s : List UInt8) : choiceC s = M.choiceS s := by
  unfold choiceC M.choiceS
  rcases cut_cases s 32 with ⟨hn, e1, e2⟩ | ⟨a, b, rfl, hn, e1, e2⟩
  · rw [e1, e2]
    simp only [Bool.false_eq_true, if_false]
  · rw [e1, e2]
    simp only [if_true]
    rcases cut_cases b 32 with ⟨hb, _, e3⟩ | ⟨p1, p2, rfl, hb, _, e3⟩
    · rw [e3]
      have hl : limitC b = none := by
        cases h : limitC b with
        | none => rfl
        | some x =>
          obtain ⟨sg, v⟩ := x
          obtain ⟨_, _, e⟩ := limit_inv h
          exact absurd (by rw [e]; simp) hb
      rw [hl]
      simp
    · rw [e3]
      rcases cut_cases p2 32 with ⟨hc, _, e4⟩ | ⟨q1, q2, rfl, hc, _, e4⟩
      · rw [e4]
        show (if M.isNameS a = true then (match limitC (p1 ++ 32 :: p2) with | none => none | some (x, y) => some (M.Ch.mk a x y)) else none) = if M.isNameS a = true ∧ 0 < p2.length ∧ M.isVerS (p2.take (p2.length - 1)) = true ∧ M.isSignP p1 = true ∧ (p2.drop (p2.length - 1) == [41]) = true then some ⟨a, p1.drop 1, p2.take (p2.length - 1)⟩ else none
        by_cases hna : M.isNameS a = true
        · rw [if_pos hna]
          cases h : limitC (p1 ++ 32 :: p2) with
          | some x =>
            obtain ⟨sg, v⟩ := x
            obtain ⟨hs, hv, e⟩ := limit_inv h
            have h40 : (32 : UInt8) ∉ 40 :: sg := by simp [(sign_no hs).1]
            have f1 := (cut_hit (b := p2) hb).1
            have f2 := (cut_hit (b := v ++ [41]) h40).1
            rw [e] at f1
            rw [List.cons_append] at f2
            rw [f1] at f2
            simp only [Prod.mk.injEq] at f2
            obtain ⟨rfl, rfl, _⟩ := f2
            rw [if_pos ⟨hna, by simp, by simpa using hv, by rw [signP_is]; exact hs, by simp⟩]
            simp
          | none =>
            rw [if_neg]
            rintro ⟨_, h1, h2, h3, h4⟩
            obtain ⟨y, rfl⟩ := signP_40 h3
            rw [signP_is] at h3
            have hv := List.take_append_drop (p2.length - 1) p2
            rw [beq_iff_eq] at h4
            rw [h4] at hv
            rw [List.cons_append, ← hv, limit_some h3 h2] at h
            cases h
        · rw [if_neg hna, if_neg (fun h => hna h.1)]
      · rw [e4]
        have hl : limitC (p1 ++ 32 :: (q1 ++ 32 :: q2)) = none := by
          cases h : limitC (p1 ++ 32 :: (q1 ++ 32 :: q2)) with
          | none => rfl
          | some x =>
            obtain ⟨sg, v⟩ := x
            obtain ⟨hs, hv, e⟩ := limit_inv h
            have h40 : (32 : UInt8) ∉ 40 :: sg := by simp [(sign_no hs).1]
            have f1 := (cut_hit (b := q1 ++ 32 :: q2) hb).1
            have f2 := (cut_hit (b := v ++ [41]) h40).1
            rw [e] at f1
            rw [List.cons_append] at f2
            rw [f1] at f2
            simp only [Prod.mk.injEq] at f2
            have h32 : (32 : UInt8) ∈ v ++ [41] := by rw [← f2.2.1]; simp
            simp at h32
            exact absurd h32 (ver_no hv)
        rw [hl]
        have hne : M.cutS q2 [32] ≠ [] := by
          have := (M.cutS_len q2 [32]).1
          intro e; rw [e] at this; simp at this
        cases hq : M.cutS q2 [32] with
        | nil => exact absurd hq hne
        | cons y l => simp
def titleC (t : List UInt8) : Option (List UInt8 × List UInt8) :=
  if (Lib.cut t [32]).2.2 = true ∧ M.isNameS (Lib.cut t [32]).1 = true ∧ M.isVerS (Lib.cut t [32]).2.1 = true then some ((Lib.cut t [32]).1, (Lib.cut t [32]).2.1) else none
def packW : List UInt8 := [112, 97, 99, 107, 97, 103, 101, 32]
theorem titleC_is (t : List UInt8) : M.titleS (packW ++ t) = titleC t := by
  have e0 := (cut_hit (a := [112, 97, 99, 107, 97, 103, 101]) (b := t) (c := 32) (by decide)).2
  unfold M.titleS titleC
  rw [show packW ++ t = [112, 97, 99, 107, 97, 103, 101] ++ 32 :: t from rfl, e0]
  rcases cut_cases t 32 with ⟨hn, e1, e2⟩ | ⟨a, b, rfl, hn, e1, e2⟩
  · rw [e1, e2, if_neg (by simp)]
  · rw [e1, e2]
    rcases cut_cases b 32 with ⟨hb, _, e3⟩ | ⟨p1, p2, rfl, hb, _, e3⟩
    · rw [e3]
      simp
    · rw [e3]
      have hne : M.cutS p2 [32] ≠ [] := by
        have := (M.cutS_len p2 [32]).1
        intro e; rw [e] at this; simp at this
      have hv : ¬ M.isVerS (p1 ++ 32 :: p2) = true := fun h => absurd (show (32 : UInt8) ∈ p1 ++ 32 :: p2 by simp) (ver_no h)
      rw [if_neg (fun h => hv h.2.2)]
      cases hq : M.cutS p2 [32] with
      | nil => exact absurd hq hne
      | cons y l => rfl
theorem title_none {s : List UInt8} (h : Lib.hasPrefix s packW = false) : M.titleS s = none := by
  unfold M.titleS
  rcases cut_cases s 32 with ⟨hn, _, e2⟩ | ⟨a, b, rfl, hn, _, e2⟩
  · rw [e2]
  · rw [e2]
    split
    · rename_i x y z e
      simp only [List.cons.injEq] at e
      obtain ⟨rfl, _⟩ := e
      rw [if_neg]
      rintro ⟨h1, _⟩
      rw [beq_iff_eq] at h1
      subst h1
      have : Lib.hasPrefix ([112, 97, 99, 107, 97, 103, 101] ++ 32 :: b) packW = true := by
        unfold Lib.hasPrefix; rw [List.isPrefixOf_iff_prefix]; exact ⟨b, rfl⟩
      rw [this] at h
      cases h
    · rfl
def isPartS (q : List UInt8) : Bool := M.made M.partP 1 8 q && !(q == [46]) && !(q == [46, 46])
def fileC (t : List UInt8) : Option M.Fl :=
  if (Lib.cut t [61]).2.2 = true ∧ (Lib.cut t [61]).2.1.length ≤ 24 ∧ (M.cutS (Lib.cut t [61]).1 [47]).length ≤ 3 ∧ (M.cutS (Lib.cut t [61]).1 [47]).all isPartS = true then some ⟨(Lib.cut t [61]).1, (Lib.cut t [61]).2.1⟩ else none
theorem lead61_miss {s : List UInt8} (h : (61 : UInt8) ∉ s) : M.lead (fun c => decide (c ≠ 61)) s = s.length :=
  M.lead_eq (k := s.length) (fun j hj _ => by
    rw [decide_eq_true_eq]
    intro e
    have : s[j] = 61 := by
      apply UInt8.toNat_inj.1
      show s[j].toNat = 61
      omega
    exact h (this ▸ List.getElem_mem hj)) (Nat.le_refl _) (fun h => absurd h (Nat.lt_irrefl _))
theorem lead61_hit {a b : List UInt8} (h : (61 : UInt8) ∉ a) : M.lead (fun c => decide (c ≠ 61)) (a ++ 61 :: b) = a.length :=
  M.lead_eq (k := a.length) (fun j hj hk => by
    rw [decide_eq_true_eq]
    intro e
    have e2 : (a ++ 61 :: b)[j] = a[j] := List.getElem_append_left hk
    rw [e2] at e
    have : a[j] = 61 := by
      apply UInt8.toNat_inj.1
      show a[j].toNat = 61
      omega
    exact h (this ▸ List.getElem_mem hk)) (by simp) (fun h => by
      rw [List.getElem_append_right (Nat.le_refl _)]
      simp)
theorem fileC_is (t : List UInt8) : fileC t = M.fileS t := by
  unfold fileC M.fileS
  rcases cut_cases t 61 with ⟨hn, e1, _⟩ | ⟨a, b, rfl, hn, e1, _⟩
  · rw [e1, lead61_miss hn, if_pos rfl, if_neg (by simp)]
  · have h0 : ¬ a.length = (a ++ 61 :: b).length := by simp
    rw [e1, lead61_hit hn, if_neg h0]
    have e3 : (a ++ 61 :: b).take a.length = a := by simp
    have e4 : (a ++ 61 :: b).drop (a.length + 1) = b := by simp
    have e5 : (a ++ 61 :: b).length - a.length - 1 = b.length := by rw [List.length_append, List.length_cons]; omega
    rw [e3, e4, e5]
    have e6 : M.isPathS a = ((M.cutS a [47]).all isPartS && decide ((M.cutS a [47]).length ≤ 3)) := rfl
    rw [e6]
    by_cases h : b.length ≤ 24 ∧ (M.cutS a [47]).length ≤ 3 ∧ (M.cutS a [47]).all isPartS = true
    · rw [if_pos ⟨rfl, h.1, h.2.1, h.2.2⟩, if_pos]
      rw [h.2.2, decide_eq_true h.2.1]
      exact ⟨rfl, h.1⟩
    · rw [if_neg (fun k => h ⟨k.2.1, k.2.2.1, k.2.2.2⟩), if_neg]
      rintro ⟨k1, k2⟩
      rw [Bool.and_eq_true, decide_eq_true_eq] at k1
      exact h ⟨k2, k1.2, k1.1⟩
end Go.Proofs.YtgnfknjopafngaaGreatDoor
namespace Go.Proofs.YtgnfknjopafngaaGreatDoor
open Go
def listC {α : Type} (f : List UInt8 → Option α) (most : Nat) (s sep : List UInt8) : Option (List α) := if (M.cutS s sep).length ≤ most then M.allS f (M.cutS s sep) else none
theorem allS_size {α : Type} {f : List UInt8 → Option α} : ∀ {l : List (List UInt8)} {r : List α}, M.allS f l = some r → r.length = l.length
  | [], r, h => by simp only [M.allS, Option.some.injEq] at h; subst h; rfl
  | s :: l, r, h => by
    simp only [M.allS] at h
    split at h
    · cases h
    · split at h
      · cases h
      · rename_i r' hr
        cases h
        simp [allS_size hr]
theorem listC_is {α : Type} (f : List UInt8 → Option α) (most : Nat) (s sep : List UInt8) : listC f most s sep = (match M.allS f (M.cutS s sep) with | none => none | some l => if l.length ≤ most then some l else none) := by
  unfold listC
  cases h : M.allS f (M.cutS s sep) with
  | none => simp
  | some l =>
    have := allS_size h
    simp only [← this]
theorem choices_is (most : Nat) (s sep : List UInt8) : listC choiceC most s sep = M.choicesS s sep most := by
  have e : choiceC = M.choiceS := funext choiceC_is
  rw [listC_is, e]
  unfold M.choicesS
  cases M.allS M.choiceS (M.cutS s sep) <;> rfl
theorem groups_is (s sep : List UInt8) : listC (fun t => listC choiceC 3 t [32, 124, 32]) 3 s sep = (match M.allS M.groupS (M.cutS s sep) with | none => none | some l => if l.length ≤ 3 then some l else none) := by
  have e : (fun t => listC choiceC 3 t [32, 124, 32]) = M.groupS := funext fun t => choices_is 3 t [32, 124, 32]
  rw [listC_is, e]
  cases M.allS M.groupS (M.cutS s sep) <;> rfl
def foldersS (b : List UInt8) : List (List UInt8) := (List.range b.length).flatMap fun i => if Lib.hasPrefix (b.drop i) [47] = true then [b.take i] else []
theorem over_is (a b : List UInt8) : M.over a b = (foldersS b).contains a := by
  rw [Bool.eq_iff_iff, M.over, begins_pre, List.contains_iff_mem]
  unfold foldersS
  rw [List.mem_flatMap]
  constructor
  · intro h
    obtain ⟨r, rfl⟩ : ∃ r, b = (a ++ [47]) ++ r := ⟨_, pre_split h⟩
    refine ⟨a.length, by simp, ?_⟩
    rw [if_pos (by simp [Lib.hasPrefix, List.isPrefixOf])]
    simp
  · rintro ⟨i, hi, h⟩
    split at h
    · rename_i hp
      simp only [List.mem_singleton] at h
      subst h
      unfold Lib.hasPrefix
      rw [List.isPrefixOf_iff_prefix]
      have e := pre_split hp
      refine ⟨(b.drop i).drop 1, ?_⟩
      rw [List.append_assoc]
      conv => rhs; rw [← List.take_append_drop i b]
      rw [show ([47] : List UInt8).length = 1 from rfl] at e
      rw [← e]
    · simp at h
def clashS (a b : List UInt8) : Bool := a == b || (foldersS b).contains a || (foldersS a).contains b
theorem clash_is (f g : M.Fl) : M.apart f g = !clashS f.path g.path := by
  unfold M.apart clashS
  rw [over_is, over_is]
  cases (foldersS g.path).contains f.path <;> cases (foldersS f.path).contains g.path <;> cases (f.path == g.path) <;> rfl
def addC (l : List M.Fl) (t : List UInt8) : Option (List M.Fl) := match fileC t with
  | none => none
  | some f => if l.length < 4 ∧ l.any (fun g => clashS f.path g.path) = false then some (l ++ [f]) else none
def filesC : List (List UInt8) → Nat → M.Pk → Sum Nat M.Pk
  | [], _, p => .inr p
  | s :: r, k, p => if Lib.hasPrefix s M.fileW = true then (match addC p.files (s.drop 5) with
      | none => .inl (k + 1)
      | some l => filesC r (k + 1) { p with files := l })
    else .inl (k + 1)
def barsC (ls : List (List UInt8)) (k : Nat) (p : M.Pk) : Sum Nat M.Pk := match ls with
  | [] => .inr p
  | s :: r => if Lib.hasPrefix s M.barsW = true then (match listC choiceC 3 (s.drop 5) [44, 32] with
      | none => .inl (k + 1)
      | some l => filesC r (k + 1) { p with bars := l })
    else filesC (s :: r) k p
def needsC (ls : List (List UInt8)) (k : Nat) (p : M.Pk) : Sum Nat M.Pk := match ls with
  | [] => .inr p
  | s :: r => if Lib.hasPrefix s M.needsW = true then (match listC (fun t => listC choiceC 3 t [32, 124, 32]) 3 (s.drop 6) [44, 32] with
      | none => .inl (k + 1)
      | some l => barsC r (k + 1) { p with needs := l })
    else barsC (s :: r) k p
def titlesC (ls : List (List UInt8)) (p : M.Pk) : Sum Nat M.Pk := match ls with
  | [] => .inl 1
  | s :: r => if Lib.hasPrefix s packW = true then (match titleC (s.drop 8) with
      | none => .inl 1
      | some (a, b) => needsC r 1 { p with name := a, ver := b })
    else .inl 1
theorem add_line (p : M.Pk) (k : Nat) (s : List UInt8) (hk : 0 < k) (h : Lib.hasPrefix s M.fileW = true) : M.lineS p k s = (match addC p.files (s.drop 5) with | none => none | some l => some { p with files := l }) := by
  have hb := begins_pre s M.fileW
  rw [h] at hb
  have h1 : M.begins s M.needsW = false := by
    cases e : M.begins s M.needsW with
    | false => rfl
    | true =>
      rw [begins_pre] at e
      obtain ⟨r1, e1⟩ : ∃ r, s = M.fileW ++ r := ⟨_, pre_split h⟩
      obtain ⟨r2, e2⟩ : ∃ r, s = M.needsW ++ r := ⟨_, pre_split e⟩
      rw [e1] at e2; simp [M.fileW, M.needsW] at e2
  have h2 : M.begins s M.barsW = false := by
    cases e : M.begins s M.barsW with
    | false => rfl
    | true =>
      rw [begins_pre] at e
      obtain ⟨r1, e1⟩ : ∃ r, s = M.fileW ++ r := ⟨_, pre_split h⟩
      obtain ⟨r2, e2⟩ : ∃ r, s = M.barsW ++ r := ⟨_, pre_split e⟩
      rw [e1] at e2; simp [M.fileW, M.barsW] at e2
  unfold M.lineS addC
  rw [if_neg (by omega), if_neg (by rw [h1]; simp), if_neg (by rw [h2]; simp), ← fileC_is]
  by_cases h4 : p.files.length < 4
  · rw [if_pos ⟨hb, h4⟩]
    cases fileC (s.drop 5) with
    | none => rfl
    | some f =>
      have e : p.files.all (M.apart f) = !(p.files.any (fun g => clashS f.path g.path)) := by
        rw [show M.apart f = fun g => !clashS f.path g.path from funext (clash_is f)]
        rw [List.not_any_eq_all_not]
      simp only [e]
      cases hc : p.files.any (fun g => clashS f.path g.path) with
      | false => simp [h4]
      | true => simp
  · rw [if_neg (fun h => h4 h.2)]
    cases fileC (s.drop 5) with
    | none => rfl
    | some f => simp [h4]
theorem no_line {p : M.Pk} {k : Nat} {s : List UInt8} (hk : 0 < k) (h1 : Lib.hasPrefix s M.fileW = false) (h2 : Lib.hasPrefix s M.needsW = false ∨ 0 < p.needs.length + p.bars.length + p.files.length)
    (h3 : Lib.hasPrefix s M.barsW = false ∨ 0 < p.bars.length + p.files.length) : M.lineS p k s = none := by
  unfold M.lineS
  rw [begins_pre, begins_pre, begins_pre, if_neg (by omega), if_neg, if_neg, if_neg]
  · rw [h1]; simp
  · rintro ⟨a, b⟩
    rcases h3 with h | h
    · rw [h] at a; cases a
    · omega
  · rintro ⟨a, b⟩
    rcases h2 with h | h
    · rw [h] at a; cases a
    · omega
theorem addC_pos {l r : List M.Fl} {t : List UInt8} (h : addC l t = some r) : 0 < r.length := by
  unfold addC at h
  split at h
  · cases h
  · split at h
    · cases h; simp
    · cases h
theorem files_is : ∀ (ls : List (List UInt8)) (k : Nat) (p : M.Pk), 0 < k → (∀ s r, ls = s :: r → (Lib.hasPrefix s M.needsW = false ∨ 0 < p.needs.length + p.bars.length + p.files.length) ∧ (Lib.hasPrefix s M.barsW = false ∨ 0 < p.bars.length + p.files.length)) →
    filesC ls k p = M.linesS ls k p
  | [], k, p, _, _ => rfl
  | s :: r, k, p, hk, h => by
    simp only [filesC, M.linesS]
    by_cases hf : Lib.hasPrefix s M.fileW = true
    · rw [if_pos hf, add_line p k s hk hf]
      cases ha : addC p.files (s.drop 5) with
      | none => rfl
      | some l =>
        have := addC_pos ha
        exact files_is r (k + 1) _ (by omega) (fun s' r' _ => ⟨.inr (by show 0 < _ + _ + l.length; omega), .inr (by show 0 < _ + l.length; omega)⟩)
    · have hf' : Lib.hasPrefix s M.fileW = false := by simpa using hf
      rw [if_neg hf, no_line hk hf' (h s r rfl).1 (h s r rfl).2]
theorem pre_excl {s : List UInt8} {a b : UInt8} {t r : List UInt8} (h : Lib.hasPrefix s (a :: t) = true) (hab : a ≠ b) : Lib.hasPrefix s (b :: r) = false := by
  cases k : Lib.hasPrefix s (b :: r) with
  | false => rfl
  | true =>
    obtain ⟨r1, e1⟩ : ∃ r, s = a :: t ++ r := ⟨_, pre_split h⟩
    obtain ⟨r2, e2⟩ : ∃ r', s = b :: r ++ r' := ⟨_, pre_split k⟩
    rw [e1] at e2
    simp at e2
    exact absurd e2.1 hab
theorem listC_pos {α : Type} {f : List UInt8 → Option α} {m : Nat} {s sep : List UInt8} {l : List α} (h : listC f m s sep = some l) : 0 < l.length ∧ l.length ≤ m := by
  unfold listC at h
  split at h
  · rename_i hm
    rw [allS_size h]
    exact ⟨(M.cutS_len s sep).1, hm⟩
  · cases h
theorem bars_is (ls : List (List UInt8)) (k : Nat) (p : M.Pk) (hk : 0 < k) (hp : p.bars.length + p.files.length = 0)
    (h : ∀ s r, ls = s :: r → Lib.hasPrefix s M.needsW = false ∨ 0 < p.needs.length) : barsC ls k p = M.linesS ls k p := by
  cases ls with
  | nil => rfl
  | cons s r =>
    unfold barsC
    by_cases hb : Lib.hasPrefix s M.barsW = true
    · have hn : Lib.hasPrefix s M.needsW = false := pre_excl hb (by decide)
      simp only [if_pos hb, M.linesS]
      have e : M.lineS p k s = (match listC choiceC 3 (s.drop 5) [44, 32] with | none => none | some l => some { p with bars := l }) := by
        unfold M.lineS
        rw [begins_pre, begins_pre, if_neg (by omega), if_neg (by rw [hn]; simp), if_pos ⟨hb, hp⟩, choices_is]
        cases M.choicesS (s.drop 5) [44, 32] 3 <;> rfl
      rw [e]
      cases hl : listC choiceC 3 (s.drop 5) [44, 32] with
      | none => rfl
      | some l =>
        have := (listC_pos hl).1
        exact files_is r (k + 1) _ (by omega) (fun s' r' _ => ⟨.inr (by show 0 < _ + l.length + _; omega), .inr (by show 0 < l.length + _; omega)⟩)
    · have hb' : Lib.hasPrefix s M.barsW = false := by simpa using hb
      simp only [if_neg hb]
      refine files_is (s :: r) k p hk (fun s' r' e => ?_)
      simp only [List.cons.injEq] at e
      obtain ⟨rfl, _⟩ := e
      refine ⟨?_, .inl hb'⟩
      rcases h s r rfl with h | h
      · exact .inl h
      · exact .inr (by omega)
theorem needs_is (ls : List (List UInt8)) (k : Nat) (p : M.Pk) (hk : 0 < k) (hp : p.needs.length + p.bars.length + p.files.length = 0) : needsC ls k p = M.linesS ls k p := by
  cases ls with
  | nil => rfl
  | cons s r =>
    unfold needsC
    by_cases hn : Lib.hasPrefix s M.needsW = true
    · simp only [if_pos hn, M.linesS]
      have e : M.lineS p k s = (match listC (fun t => listC choiceC 3 t [32, 124, 32]) 3 (s.drop 6) [44, 32] with | none => none | some l => some { p with needs := l }) := by
        unfold M.lineS
        rw [begins_pre, if_neg (by omega), if_pos ⟨hn, hp⟩, groups_is]
        cases M.allS M.groupS (M.cutS (s.drop 6) [44, 32]) with
        | none => rfl
        | some l =>
          by_cases h3 : l.length ≤ 3
          · simp [h3]
          · simp [h3]
      rw [e]
      cases hl : listC (fun t => listC choiceC 3 t [32, 124, 32]) 3 (s.drop 6) [44, 32] with
      | none => rfl
      | some l =>
        have := (listC_pos hl).1
        exact bars_is r (k + 1) _ (by omega) (by show p.bars.length + p.files.length = 0; omega) (fun s' r' _ => .inr this)
    · have hn' : Lib.hasPrefix s M.needsW = false := by simpa using hn
      simp only [if_neg hn]
      refine bars_is (s :: r) k p hk (by omega) (fun s' r' e => ?_)
      simp only [List.cons.injEq] at e
      obtain ⟨rfl, _⟩ := e
      exact .inl hn'
theorem titles_is (ls : List (List UInt8)) (hl : ls ≠ []) : titlesC ls M.emptyPk = M.linesS ls 0 M.emptyPk := by
  cases ls with
  | nil => exact absurd rfl hl
  | cons s r =>
    unfold titlesC
    simp only [M.linesS]
    have e0 : M.lineS M.emptyPk 0 s = (match M.titleS s with | none => none | some (a, b) => some { M.emptyPk with name := a, ver := b }) := by
      unfold M.lineS; rw [if_pos rfl]
      cases M.titleS s <;> rfl
    rw [e0]
    by_cases hp : Lib.hasPrefix s packW = true
    · rw [if_pos hp]
      obtain ⟨t, rfl⟩ : ∃ t, s = packW ++ t := ⟨_, pre_split hp⟩
      rw [titleC_is, show (packW ++ t).drop 8 = t from by simp [packW]]
      cases titleC t with
      | none => rfl
      | some x => exact needs_is r 1 _ (by omega) rfl
    · have hp' : Lib.hasPrefix s packW = false := by simpa using hp
      rw [if_neg hp, title_none hp']
theorem trim_is (s : List UInt8) : Lib.trimSuffix s [10] = M.trimS s := by
  unfold Lib.trimSuffix M.trimS
  by_cases h : Lib.hasSuffix s [10] = true
  · rw [if_pos h]
    have e := suf_split h
    rw [if_pos (by rw [e]; simp), List.dropLast_eq_take]
    rfl
  · rw [if_neg h, if_neg]
    intro e
    apply h
    unfold Lib.hasSuffix
    rw [List.isSuffixOf_iff_suffix]
    obtain ⟨l, rfl⟩ := List.getLast?_eq_some_iff.1 e
    exact ⟨l, rfl⟩
theorem read_is (s : List UInt8) (h : s.length ≤ 300) : M.readS s = (match titlesC (M.cutS (Lib.trimSuffix s [10]) [10]) M.emptyPk with | .inl n => .inl n | .inr p => .inr { p with files := M.sortF p.files }) := by
  unfold M.readS
  have hne : M.cutS (M.trimS s) [10] ≠ [] := by
    have := (M.cutS_len (M.trimS s) [10]).1
    intro e; rw [e] at this; simp at this
  rw [if_neg (by omega), trim_is, titles_is _ hne]
  cases M.linesS (M.cutS (M.trimS s) [10]) 0 M.emptyPk <;> rfl
end Go.Proofs.YtgnfknjopafngaaGreatDoor
namespace Go.Proofs.YtgnfknjopafngaaGreatDoor
open Go.RowKit
def MaxIs (w : World) : Prop := ∃ m, w.cell? ⟨1, 0, none⟩ = some (.int .i64 m)
theorem MaxIs.lt {w : World} (h : MaxIs w) : 1 < w.heap.size := by
  obtain ⟨m, h2⟩ := h
  rcases Nat.lt_or_ge 1 w.heap.size with h | h
  · exact h
  · simp [World.cell?, Array.getElem?_eq_none h] at h2
theorem MaxIs.below {w w' : World} (h : MaxIs w) (hb : Below w.heap.size w w') : MaxIs w' := by
  have hlt := h.lt
  obtain ⟨m, h2⟩ := h
  exact ⟨m, (hb.cell (p := ⟨1, 0, none⟩) hlt).trans h2⟩
theorem MaxIs.drewN {w : World} (h : MaxIs w) (n : Nat) : MaxIs (w.drewN n) := h.below (below_same w n)
theorem bytes_ex (l : List UInt8) : ∃ A : ByteArray, A.data.toList = l := ⟨⟨l.toArray⟩, rfl⟩
theorem mk_data (A : ByteArray) : (⟨A.data.toList.toArray⟩ : ByteArray) = A := bytes_of rfl
theorem cut_lib (s A B : ByteArray) (c : UInt8) (ok : Bool) (w : World) (hw : MaxIs w) (hs : s.size ≤ 1000000) (h : Lib.cut s.data.toList [c] = (A.data.toList, B.data.toList, ok)) :
    Calls Tryz.prog 169 #[.string s, .string ⟨#[c]⟩] w fun e w' => e = .returned (.tuple #[.string A, .string B, .bool ok]) ∧ ∃ n, w' = w.drewN n := by
  obtain ⟨m, hm⟩ := hw
  have := Tryz.strings_Cut s ⟨#[c]⟩ m w (by omega) hm
  have e : Lib.cut s.data.toList (ByteArray.mk #[c]).data.toList = (A.data.toList, B.data.toList, ok) := h
  rw [e] at this
  simp only [mk_data] at this
  exact this
theorem prefix_lib (s p A : ByteArray) (ok : Bool) (w : World) (h : Lib.trimPrefix s.data.toList p.data.toList = A.data.toList) (hok : Lib.hasPrefix s.data.toList p.data.toList = ok) :
    Calls Tryz.prog 168 #[.string s, .string p] w fun e w' => e = .returned (.tuple #[.string A, .bool ok]) ∧ w' = w := by
  have := Tryz.strings_CutPrefix s p w
  rw [h, hok, mk_data] at this
  exact this
theorem suffix_lib (s p A : ByteArray) (ok : Bool) (w : World) (hs : s.size ≤ 1000000) (h : Lib.trimSuffix s.data.toList p.data.toList = A.data.toList) (hok : Lib.hasSuffix s.data.toList p.data.toList = ok) :
    Calls Tryz.prog 215 #[.string s, .string p] w fun e w' => e = .returned (.tuple #[.string A, .bool ok]) ∧ w' = w := by
  have := Tryz.strings_CutSuffix s p w (by omega)
  rw [h, hok, mk_data] at this
  exact this
theorem trim_lib (s p A : ByteArray) (w : World) (hs : s.size ≤ 1000000) (h : Lib.trimSuffix s.data.toList p.data.toList = A.data.toList) :
    Calls Tryz.prog 86 #[.string s, .string p] w fun e w' => e = .returned (.string A) ∧ w' = w := by
  have := Tryz.strings_TrimSuffix s p w (by omega)
  rw [h, mk_data] at this
  exact this
theorem split_lib (s sep : ByteArray) (ps : List ByteArray) (w : World) (hw : MaxIs w) (hs : s.size ≤ 1000000) (h1 : 1 ≤ sep.size) (h : M.cutS s.data.toList sep.data.toList = ps.map (fun p => p.data.toList)) :
    Calls Tryz.prog 85 #[.string s, .string sep] w fun e w' => e = .returned (.slice (some ⟨w.heap.size, 0, none⟩) ps.length ps.length) ∧ w' = w.alloc (.cells (ps.map Value.string).toArray 9) := by
  obtain ⟨m, hm⟩ := hw
  have := Tryz.strings_Split s sep m w (by omega) hm h1
  have e := split_cut s sep h1
  rw [h] at e
  have e2 : Lib.splitB sep 0 (Lib.countB s sep) s = ps := (List.map_inj_right (fun a b hab => bytes_of hab)).1 e
  have e3 := Lib.splitB_all sep h1 0 _ s rfl
  rw [e2] at this e3
  rw [← e3] at this
  exact this
end Go.Proofs.YtgnfknjopafngaaGreatDoor
