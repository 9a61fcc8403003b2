import Derived.Test.YtgnfknjopafngaaGreatDoorKsk
import Derived.Maps.RangeWalk
import Derived.StringKeys
import Derived.Below
namespace Go.Proofs.YtgnfknjopafngaaGreatDoor
namespace M
theorem files_form (a b : List UInt8) (n : List (List Ch)) (c : List Ch) : ∀ (fs acc : List Fl) (k : Nat), 0 < k → (∀ f ∈ fs, fileS (f.path ++ [61] ++ f.content) = some f) → acc.length + fs.length ≤ 4 → (acc ++ fs).Pairwise (fun f g => apart f g = true) →
    linesS (fs.map fileL) k ⟨a, b, n, c, acc⟩ = .inr ⟨a, b, n, c, acc ++ fs⟩
  | [], acc, k, _, _, _, _ => by simp [linesS]
  | f :: fs, acc, k, hk, hf, h4, hp => by
    have e : lineS ⟨a, b, n, c, acc⟩ k (fileL f) = some ⟨a, b, n, c, acc ++ [f]⟩ := by
      unfold lineS
      rw [if_neg (by omega), if_neg (by rintro ⟨h, _⟩; have : begins (fileL f) needsW = false := begins_ne (by decide); rw [this] at h; cases h), if_neg (by rintro ⟨h, _⟩; have : begins (fileL f) barsW = false := begins_ne (by decide); rw [this] at h; cases h),
        if_pos ⟨begins_app fileW _, by simp at h4 ⊢; omega⟩]
      have e1 : (fileL f).drop 5 = f.path ++ [61] ++ f.content := rfl
      rw [e1, hf f (by simp)]
      dsimp only
      rw [if_pos]
      rw [List.all_eq_true]
      intro g hg
      exact apart_symm ((List.pairwise_append.1 hp).2.2 g hg f (by simp))
    rw [List.map_cons]
    simp only [linesS]
    rw [e]
    dsimp only
    rw [files_form a b n c fs (acc ++ [f]) (k + 1) (by omega) (fun g hg => hf g (by simp [hg])) (by simp at h4 ⊢; omega) (by simpa using hp)]
    simp
theorem form_lines {p : Pk} (hv : Valid p) (ht : titleS (titleL p) = some (p.name, p.ver)) : linesS (formL p) 0 emptyPk = .inr p := by
  obtain ⟨nm, vr, n, c, fs⟩ := p
  have e0 : lineS emptyPk 0 (titleL ⟨nm, vr, n, c, fs⟩) = some ⟨nm, vr, [], [], []⟩ := by
    unfold lineS
    rw [if_pos rfl, ht]
    rfl
  have hfs : ∀ k, 0 < k → linesS (fs.map fileL) k ⟨nm, vr, n, c, []⟩ = .inr ⟨nm, vr, n, c, fs⟩ := fun k hk => by
    have := files_form nm vr n c fs [] k hk hv.files (by simpa using hv.few) (by simpa using hv.apart)
    simpa using this
  have hbs : ∀ k, 0 < k → linesS (barsL ⟨nm, vr, n, c, fs⟩ ++ fs.map fileL) k ⟨nm, vr, n, [], []⟩ = .inr ⟨nm, vr, n, c, fs⟩ := fun k hk => by
    unfold barsL
    by_cases h : c = []
    · subst h
      rw [if_pos rfl]
      exact hfs k hk
    · rw [if_neg h]
      have hb : choicesS (printedS [44, 32] c) [44, 32] 3 = some c := hv.bars.resolve_left h
      have e : lineS ⟨nm, vr, n, [], []⟩ k (barsW ++ printedS [44, 32] c) = some ⟨nm, vr, n, c, []⟩ := by
        unfold lineS
        rw [if_neg (by omega), if_neg (by rintro ⟨h, _⟩; have : begins (barsW ++ printedS [44, 32] c) needsW = false := begins_ne (by decide); rw [this] at h; cases h), if_pos ⟨begins_app barsW _, rfl⟩]
        have e1 : (barsW ++ printedS [44, 32] c).drop 5 = printedS [44, 32] c := rfl
        rw [e1, hb]
      simp only [List.cons_append, List.nil_append, linesS]
      rw [e]
      exact hfs (k + 1) (by omega)
  have hns : ∀ k, 0 < k → linesS (needsL ⟨nm, vr, n, c, fs⟩ ++ (barsL ⟨nm, vr, n, c, fs⟩ ++ fs.map fileL)) k ⟨nm, vr, [], [], []⟩ = .inr ⟨nm, vr, n, c, fs⟩ := fun k hk => by
    unfold needsL
    by_cases h : n = []
    · subst h
      rw [if_pos rfl]
      exact hbs k hk
    · rw [if_neg h]
      obtain ⟨hb, h3⟩ := hv.needs.resolve_left h
      dsimp only at hb h3
      have e : lineS ⟨nm, vr, [], [], []⟩ k (needsW ++ joinS [44, 32] (n.map (printedS [32, 124, 32]))) = some ⟨nm, vr, n, [], []⟩ := by
        unfold lineS
        rw [if_neg (by omega), if_pos ⟨begins_app needsW _, rfl⟩]
        have e1 : (needsW ++ joinS [44, 32] (n.map (printedS [32, 124, 32]))).drop 6 = joinS [44, 32] (n.map (printedS [32, 124, 32])) := rfl
        rw [e1, hb]
        dsimp only
        rw [if_pos h3]
      simp only [List.cons_append, List.nil_append, linesS]
      rw [e]
      exact hbs (k + 1) (by omega)
  unfold formL
  simp only [linesS]
  rw [e0]
  exact hns 1 (by omega)
theorem sum_perm_len {l k : List Fl} (h : l.Perm k) : (l.flatMap fileText).length = (k.flatMap fileText).length := by
  rw [List.length_flatMap, List.length_flatMap]
  exact (h.map _).sum_nat
theorem read_print {s : List UInt8} {p : Pk} (h : readS s = .inr p) : (printS p).length ≤ s.length ∧ readS (printS p) = .inr p ∧ printS p ≠ [] := by
  unfold readS at h
  split at h
  · cases h
  · rename_i h3
    split at h
    · cases h
    · rename_i q e
      cases h
      have hne : cutS (trimS s) [10] ≠ [] := fun e => by have := (cutS_len (trimS s) [10]).1; rw [e] at this; simp at this
      obtain ⟨hv, hpr, ht⟩ := whole_valid hne e
      rw [join_cut] at hpr
      have hperm := sortF_perm q.files
      have hlen : (printS { q with files := sortF q.files }).length = (printS q).length := by
        unfold printS
        simp only [List.length_append]
        rw [sum_perm_len hperm]
      have hlen2 : (printS { q with files := sortF q.files }).length ≤ s.length := by
        rw [hlen, hpr]
        unfold trimS
        split
        · simp
        · exact Nat.le_refl _
      have hv2 : Valid { q with files := sortF q.files } := ⟨hv.needs, hv.bars, fun f hf => hv.files f (hperm.mem_iff.1 hf), by show (sortF q.files).length ≤ 4; rw [hperm.length_eq]; exact hv.few, (hperm.pairwise_iff (fun {a b} hab => apart_symm hab)).2 hv.apart⟩
      have hno : ∀ x ∈ formL { q with files := sortF q.files }, x ≠ [] ∧ (10 : UInt8) ∉ x := by
        intro x hx
        constructor
        · unfold formL at hx
          rcases List.mem_cons.1 hx with rfl | hx
          · simp [titleL]
          · rcases List.mem_append.1 hx with hx | hx
            · unfold needsL at hx
              split at hx
              · cases hx
              · simp at hx; subst hx; simp [needsW]
            · rcases List.mem_append.1 hx with hx | hx
              · unfold barsL at hx
                split at hx
                · cases hx
                · simp at hx; subst hx; simp [barsW]
              · obtain ⟨f, _, rfl⟩ := List.mem_map.1 hx
                simp [fileL, fileW]
        · have hx2 : x ∈ formL q := by
            unfold formL at hx ⊢
            rcases List.mem_cons.1 hx with rfl | hx
            · exact List.mem_cons_self
            · refine List.mem_cons_of_mem _ ?_
              rcases List.mem_append.1 hx with hx | hx
              · exact List.mem_append.2 (.inl hx)
              · refine List.mem_append.2 (.inr ?_)
                rcases List.mem_append.1 hx with hx | hx
                · exact List.mem_append.2 (.inl hx)
                · obtain ⟨f, hf, rfl⟩ := List.mem_map.1 hx
                  exact List.mem_append.2 (.inr (List.mem_map.2 ⟨f, hperm.mem_iff.1 hf, rfl⟩))
          -- the lines of q are the lines that were read
          have hjoin : joinS [10] (formL q) = trimS s := by rw [← form_join, hpr]
          have key : ∀ (l : List (List UInt8)) (y : List UInt8), y ∈ l → (10 : UInt8) ∈ y → l ≠ [] → l.length < (cutS (joinS [10] l) [10]).length := by
            intro l
            induction l with
            | nil => intro y hy; cases hy
            | cons z r ih =>
              intro y hy h10 _
              have hz : ∀ (z t : List UInt8), 1 ≤ (cutS z [10]).length ∧ ((10 : UInt8) ∈ z → 2 ≤ (cutS z [10]).length) ∧ (cutS (z ++ 10 :: t) [10]).length = (cutS z [10]).length + (cutS t [10]).length := by
                intro z
                have gen : ∀ (n : Nat) (z : List UInt8), z.length ≤ n → ∀ t : List UInt8, 1 ≤ (cutS z [10]).length ∧ ((10 : UInt8) ∈ z → 2 ≤ (cutS z [10]).length) ∧ (cutS (z ++ 10 :: t) [10]).length = (cutS z [10]).length + (cutS t [10]).length := by
                  intro n
                  induction n with
                  | zero =>
                    intro z hz t
                    have : z = [] := List.length_eq_zero_iff.mp (by omega)
                    subst this
                    rw [(cut_miss (s := []) (c := 10) (by simp)).2, (cut_hit (a := []) (b := t) (c := 10) (by simp)).2]
                    simp
                    omega
                  | succ n ih =>
                    intro z hz t
                    rcases cut_cases z 10 with ⟨h, _, e⟩ | ⟨a, b, rfl, h, _, e⟩
                    · rw [e, (cut_hit h).2]
                      refine ⟨by simp, fun k => absurd k h, by simp; omega⟩
                    · obtain ⟨i1, i2, i3⟩ := ih b (by simp at hz; omega) t
                      rw [e, List.append_assoc, List.cons_append, (cut_hit h).2]
                      refine ⟨by simp, fun _ => by simp; omega, by simp [i3]; omega⟩
                exact gen z.length z (Nat.le_refl _)
              cases r with
              | nil =>
                simp at hy
                subst hy
                have := (hz y []).2.1 h10
                simp [joinS]
                omega
              | cons z2 r =>
                rw [join_cons (by simp)]
                have e2 : z ++ [10] ++ joinS [10] (z2 :: r) = z ++ 10 :: joinS [10] (z2 :: r) := by simp
                rw [e2, (hz z _).2.2]
                have hle : ∀ (l : List (List UInt8)), l ≠ [] → l.length ≤ (cutS (joinS [10] l) [10]).length := by
                  intro l
                  induction l with
                  | nil => intro h; exact absurd rfl h
                  | cons u v ihv =>
                    intro _
                    cases v with
                    | nil => have := (hz u []).1; simp [joinS]; omega
                    | cons u2 v =>
                      rw [join_cons (by simp)]
                      have e3 : u ++ [10] ++ joinS [10] (u2 :: v) = u ++ 10 :: joinS [10] (u2 :: v) := by simp
                      rw [e3, (hz u _).2.2]
                      have := ihv (by simp)
                      have := (hz u []).1
                      simp at *
                      omega
                rcases List.mem_cons.1 hy with rfl | hy
                · have h1 := (hz y []).2.1 h10
                  have h2 := hle (z2 :: r) (by simp)
                  simp at h2 ⊢
                  omega
                · have h1 := ih y hy h10 (by simp)
                  have h2 := (hz z []).1
                  simp at h1 ⊢
                  omega
          intro h10
          have h1 := key (formL q) x hx2 h10 (by simp [formL])
          rw [hjoin] at h1
          -- but there are as1 many lines as1 q has
          have h2 : (cutS (trimS s) [10]).length = (formL q).length := by
            have cnt : ∀ (l : List (List UInt8)) (k : Nat) (p q : Pk), 0 < k → linesS l k p = .inr q → (needsL q).length + (barsL q).length + q.files.length = (needsL p).length + (barsL p).length + p.files.length + l.length := by
              intro l
              induction l with
              | nil => intro k p q _ h; simp only [linesS, Sum.inr.injEq] at h; subst h; rfl
              | cons y l ih =>
                intro k p q hk h
                simp only [linesS] at h
                split at h
                · cases h
                · rename_i p' hp'
                  rw [ih (k + 1) p' q (by omega) h, List.length_cons]
                  have : (needsL p').length + (barsL p').length + p'.files.length = (needsL p).length + (barsL p).length + p.files.length + 1 := by
                    unfold lineS at hp'
                    rw [if_neg (by omega)] at hp'
                    split at hp'
                    · rename_i hb
                      have n0 : p.needs = [] := List.length_eq_zero_iff.mp (by omega)
                      split at hp'
                      · cases hp'
                      · rename_i l hl
                        split at hp'
                        · cases hp'
                          unfold needsL barsL
                          dsimp only
                          rw [if_neg (groups_text hl).2, if_pos n0]
                          simp
                          omega
                        · cases hp'
                    · split at hp'
                      · rename_i hb
                        have b0 : p.bars = [] := List.length_eq_zero_iff.mp (by omega)
                        split at hp'
                        · cases hp'
                        · rename_i l hl
                          cases hp'
                          unfold needsL barsL
                          dsimp only
                          rw [if_neg (choices_text hl).2, if_pos b0]
                          simp
                          omega
                      · split at hp'
                        · split at hp'
                          · cases hp'
                          · split at hp'
                            · cases hp'
                              unfold needsL barsL
                              simp
                              omega
                            · cases hp'
                        · cases hp'
                  omega
            cases hc : cutS (trimS s) [10] with
            | nil => exact absurd hc hne
            | cons y r =>
              rw [hc] at e
              simp only [linesS] at e
              split at e
              · cases e
              · rename_i p' hp'
                have hc1 := cnt r 1 p' q (by omega) e
                unfold lineS at hp'
                rw [if_pos rfl] at hp'
                split at hp'
                · cases hp'
                · cases hp'
                  unfold formL
                  simp [needsL, barsL, emptyPk] at hc1 ⊢
                  omega
          omega
      have hcut : cutS (printS { q with files := sortF q.files }) [10] = formL { q with files := sortF q.files } := by
        rw [form_join]
        exact cut_join _ (by simp [formL]) (fun x hx => (hno x hx).2)
      obtain ⟨hl1, hl2⟩ := join_last (c := 10) (formL { q with files := sortF q.files }) (by simp [formL]) hno
      rw [← form_join] at hl1 hl2
      refine ⟨hlen2, ?_, hl1⟩
      have etrim : trimS (printS { q with files := sortF q.files }) = printS { q with files := sortF q.files } := by unfold trimS; rw [if_neg hl2]
      unfold readS
      rw [if_neg (by omega), etrim, hcut, form_lines hv2 (by exact ht)]
      dsimp only
      rw [sortF_id (sortF_sorted q.files)]
end M
end Go.Proofs.YtgnfknjopafngaaGreatDoor
namespace Go.Proofs.YtgnfknjopafngaaGreatDoor
open Go.RowKit
theorem bytes_same {a b : ByteArray} (h : a.data.toList = b.data.toList) : a = b := by
  cases a with
  | mk x =>
    cases b with
    | mk y => exact congrArg ByteArray.mk (Array.toList_inj.mp h)
end Go.Proofs.YtgnfknjopafngaaGreatDoor
namespace Go.Proofs.YtgnfknjopafngaaGreatDoor
open Go.RowKit
abbrev StrsIn (w : World) (v : Value) (l : List ByteArray) : Prop := RowIn w 0 w.heap.size v l.length (l.map Value.string)
theorem StrsIn.below {w w' : World} {v : Value} {l : List ByteArray} (h : StrsIn w v l) (hb : Below w.heap.size w w') : StrsIn w' v l :=
  (h.keep (fun _ _ _ hg => belowS hb hg)).wide (Nat.le_refl _) hb.size
theorem nm_strs (l : List (List UInt8)) : nmCells l = (l.map fun n => (⟨n.toArray⟩ : ByteArray)).map Value.string := by
  unfold nmCells
  rw [List.map_map]
  rfl
def sectorsN (n : Int) : Nat := if n < 16 then 16 else if 256 < n then 256 else n.toNat
theorem sectorsN_le (n : Int) : 16 ≤ sectorsN n ∧ sectorsN n ≤ 256 := by
  unfold sectorsN
  split
  · omega
  · split <;> omega
structure ReadP (p : M.Pk) : Prop where
  short : ShortP p
  len : (M.printS p).length ≤ 300
  good : M.Good p
  name : p.name ≠ []
  back : M.readS (M.printS p) = .inr p
theorem readP {s : List UInt8} {p : M.Pk} (h : M.readS s = .inr p) : ReadP p := by
  have h300 : s.length ≤ 300 := by
    unfold M.readS at h
    split at h
    · cases h
    · omega
  obtain ⟨h1, h2, h3⟩ := M.read_print h
  obtain ⟨h4, h5⟩ := M.read_good h
  exact ⟨readS_short h, by omega, h4, h5, h2⟩
theorem ReadP.smallQ {p : M.Pk} (h : ReadP p) : SmallQ p := read_smallQ h.back
theorem size_le {l : List M.Pk} (h : ∀ p ∈ l, ReadP p) : M.sizeS l ≤ l.length * 300 := by
  unfold M.sizeS
  induction l with
  | nil => simp
  | cons p l ih =>
    have h1 := (h p (by simp)).len
    have h2 := ih (fun q hq => h q (by simp [hq]))
    simp only [List.map_cons, List.sum_cons, List.length_cons]
    omega
end Go.Proofs.YtgnfknjopafngaaGreatDoor
namespace Go.Proofs.YtgnfknjopafngaaGreatDoor
open Go.Maps Go.RowKit
open Go.WideMaps (keyOf_string_mk)
def heldE (v : Value) : Option (DataW Value × List MemPlace) := some (.held v, [])
abbrev KV : Type := List UInt8 × Value
def toE (p : KV) : Lit × DataW Value := (.string p.1, .held p.2)
def Keys (l : List KV) : Prop := (l.map Prod.fst).Nodup
theorem Keys.perm {l m : List KV} (h : Keys l) (hp : l.Perm m) : Keys m := (hp.map Prod.fst).nodup_iff.1 h
theorem Keys.eq {l : List KV} (h : Keys l) {k : List UInt8} {v v' : Value} (h1 : (k, v) ∈ l) (h2 : (k, v') ∈ l) : v = v' := by
  induction l with
  | nil => cases h1
  | cons p l ih =>
    obtain ⟨n1, n2⟩ := List.nodup_cons.1 (show (p.1 :: l.map Prod.fst).Nodup from h)
    rcases List.mem_cons.1 h1 with e1 | m1
    · rcases List.mem_cons.1 h2 with e2 | m2
      · rw [← e1] at e2; cases e2; rfl
      · exact absurd (List.mem_map.2 ⟨_, m2, by rw [← e1]⟩) n1
    · rcases List.mem_cons.1 h2 with e2 | m2
      · exact absurd (List.mem_map.2 ⟨_, m1, by rw [← e2]⟩) n1
      · exact ih n2 m1 m2
theorem Keys.filter {l : List KV} (h : Keys l) (f : KV → Bool) : Keys (l.filter f) := List.Nodup.sublist ((List.filter_sublist (p := f) (l := l)).map Prod.fst) h
def lookK (l : List KV) (k : List UInt8) : Option Value := (l.find? fun p => p.1 == k).map Prod.snd
theorem look_mem {l : List KV} (h : Keys l) {k : List UInt8} {v : Value} : lookK l k = some v ↔ (k, v) ∈ l := by
  unfold lookK
  constructor
  · intro e
    obtain ⟨p, hp, rfl⟩ := Option.map_eq_some_iff.1 e
    have h1 := List.find?_some hp
    have h2 := List.mem_of_find?_eq_some hp
    have : p.1 = k := by simpa using h1
    subst this
    exact h2
  · intro hm
    cases hf : l.find? (fun p => p.1 == k) with
    | none =>
      have := List.find?_eq_none.1 hf _ hm
      simp at this
    | some p =>
      have h1 := List.find?_some hf
      have h2 := List.mem_of_find?_eq_some hf
      have e : p.1 = k := by simpa using h1
      subst e
      rw [Option.map_some, h.eq h2 hm]
theorem look_none {l : List KV} {k : List UInt8} : lookK l k = none ↔ ∀ p ∈ l, p.1 ≠ k := by
  unfold lookK
  rw [Option.map_eq_none_iff, List.find?_eq_none]
  constructor
  · intro h p hp; simpa using h p hp
  · intro h p hp; simpa using h p hp
def putK (l : List KV) (k : List UInt8) (v : Value) : List KV := (k, v) :: l.filter (fun p => p.1 != k)
def dropK (l : List KV) (k : List UInt8) : List KV := l.filter (fun p => p.1 != k)
theorem keys_put {l : List KV} (h : Keys l) (k : List UInt8) (v : Value) : Keys (putK l k v) := by
  refine List.nodup_cons.2 ⟨fun hm => ?_, h.filter _⟩
  obtain ⟨p, hp, e⟩ := List.mem_map.1 hm
  have := (List.mem_filter.1 hp).2
  simp [e] at this
section
variable {P : Program} {K : TypeId}
def StrMap (P : Program) (K : TypeId) (w : World) (b : Nat) (l : List KV) : Prop :=
  ∃ n es, w.ownsMap P K heldE b n (.map es) ∧ n = es.length ∧ es.Perm (l.map toE) ∧ Keys l
theorem own_tight {w : World} {b n : Nat} {es : List (Lit × DataW Value)} (h : w.ownsMap P K heldE b n (.map es)) : w.ownsMap P K heldE b es.length (.map es) := by
  obtain ⟨xs, clock, hb, F, hs, hD⟩ := h
  refine ⟨xs, clock, hb, F, ?_, hD⟩
  cases hD
  rw [length_sorted]
  simp
theorem StrMap.perm {w : World} {b : Nat} {l m : List KV} (h : StrMap P K w b l) (hp : l.Perm m) : StrMap P K w b m := by
  obtain ⟨n, es, h1, h2, h3, h4⟩ := h
  exact ⟨n, es, h1, h2, h3.trans (hp.map _), h4.perm hp⟩
theorem StrMap.keys {w : World} {b : Nat} {l : List KV} (h : StrMap P K w b l) : Keys l := h.choose_spec.choose_spec.2.2.2
theorem StrMap.lt {w : World} {b : Nat} {l : List KV} (h : StrMap P K w b l) : b < w.heap.size := by
  obtain ⟨n, es, h1, _⟩ := h
  exact h1.lt
theorem StrMap.kept {w w' : World} {b : Nat} {l : List KV} {row : Option Nat} (h : StrMap P K w b l) (hg : w.grownBy w' row) (hne : some b ≠ row) : StrMap P K w' b l := by
  obtain ⟨n, es, h1, h2⟩ := h
  exact ⟨n, es, h1.kept hg hne, h2⟩
theorem StrMap.block {w w' : World} {b : Nat} {l : List KV} (h : StrMap P K w b l) (hb : w'.heap[b]? = w.heap[b]?) : StrMap P K w' b l := by
  obtain ⟨n, es, ⟨xs, clock, h0, h1⟩, h2⟩ := h
  exact ⟨n, es, ⟨xs, clock, hb.trans h0, h1⟩, h2⟩
theorem StrMap.below {w w' : World} {B b : Nat} {l : List KV} (h : StrMap P K w b l) (hb : Below B w w') (hlt : b < B) : StrMap P K w' b l := h.block (hb.block b hlt)
theorem StrMap.made (w : World) : StrMap P K (w.alloc (.map #[] 0)) w.heap.size [] := ⟨0, [], World.ownsMap_made w P K heldE, rfl, .refl _, List.nodup_nil⟩
theorem sameKey_string {a : Lit} {k : List UInt8} : a.sameKey (.string k) = true ↔ a = .string k :=
  ⟨fun h => WideAt.sameKey_eq h, fun h => by subst h; exact WideAt.sameKey_self (by trivial)⟩
theorem has_str {es : List (Lit × DataW Value)} {l : List KV} (h : es.Perm (l.map toE)) (k : List UInt8) : Maps.has (.map es) (.string k) = (lookK l k).isSome := by
  rw [Maps.has_eq]
  cases hl : lookK l k with
  | none =>
    rw [Option.isSome_none, List.any_eq_false]
    intro p hp hs
    obtain ⟨q, hq, rfl⟩ := List.mem_map.1 (h.mem_iff.1 hp)
    have e := sameKey_string.1 hs
    simp only [toE] at e
    cases e
    exact look_none.1 hl q hq rfl
  | some v =>
    rw [Option.isSome_some, List.any_eq_true]
    unfold lookK at hl
    obtain ⟨p, hp, rfl⟩ := Option.map_eq_some_iff.1 hl
    have h1 := List.find?_some hp
    have h2 := List.mem_of_find?_eq_some hp
    have e : p.1 = k := by simpa using h1
    exact ⟨toE p, h.mem_iff.2 (List.mem_map.2 ⟨p, h2, rfl⟩), by subst e; exact sameKey_string.2 rfl⟩
theorem at_str {es : List (Lit × DataW Value)} {l : List KV} (h : es.Perm (l.map toE)) (hk : Keys l) (k : List UInt8) (z : DataW Value) : (DataW.map es).atKey (.string k) z = (match lookK l k with | some v => .held v | none => z) := by
  cases hl : lookK l k with
  | none => exact Maps.atKey_of_not_has (by rw [has_str h, hl]; rfl) z
  | some v =>
    have hm := (look_mem hk).1 hl
    unfold DataW.atKey
    cases hf : es.find? (fun p => p.1.sameKey (.string k)) with
    | none =>
      have := List.find?_eq_none.1 hf _ (h.mem_iff.2 (List.mem_map.2 ⟨_, hm, rfl⟩))
      exact absurd (sameKey_string.2 rfl) this
    | some p =>
      obtain ⟨q, hq, e⟩ := List.mem_map.1 (h.mem_iff.1 (List.mem_of_find?_eq_some hf))
      have e2 := sameKey_string.1 (List.find?_some (p := fun p : Lit × DataW Value => p.1.sameKey (.string k)) hf)
      subst e
      simp only [toE] at e2
      cases e2
      dsimp only
      rw [hf]
      show DataW.held q.2 = _
      rw [hk.eq (v := q.2) (v' := v) hq hm]
variable {w : World} {b : Nat} {l : List KV} {T E : TypeId}
theorem StrMap.look (h : StrMap P K w b l) (hk : P.underlying K = some .string) (ht : P.underlying T = some (.map K E)) {z : Value} (hz : (zeroValue E).run P w = .ok z w) {s : ByteArray} (hs : s.size ≤ maxLen) :
    (Instr.lookup T (.map (some b)) (.string s) false).run P w = .ok ((lookK l s.data.toList).getD z) w := by
  obtain ⟨n, es, h1, h2, h3, h4⟩ := h
  obtain ⟨v, ps, hrun, hv⟩ := h1.lookup (string_keyed hk) ht hz (zd := .held z) (zp := []) rfl (keyOf_string_mk hk hs)
  rw [hrun, at_str h3 h4] at *
  cases hl : lookK l s.data.toList with
  | none => rw [hl] at hv; cases hv; rfl
  | some u => rw [hl] at hv; cases hv; rfl
theorem StrMap.look2 (h : StrMap P K w b l) (hk : P.underlying K = some .string) (ht : P.underlying T = some (.map K E)) {z : Value} (hz : (zeroValue E).run P w = .ok z w) {s : ByteArray} (hs : s.size ≤ maxLen) :
    (Instr.lookup T (.map (some b)) (.string s) true).run P w = .ok (.tuple #[(lookK l s.data.toList).getD z, .bool (lookK l s.data.toList).isSome]) w := by
  obtain ⟨n, es, h1, h2, h3, h4⟩ := h
  obtain ⟨v, ps, hrun, hv⟩ := h1.look_ok (string_keyed hk) ht hz (zd := .held z) (zp := []) rfl (keyOf_string_mk hk hs)
  rw [hrun, has_str h3]
  rw [at_str h3 h4] at hv
  cases hl : lookK l s.data.toList with
  | none => rw [hl] at hv; cases hv; rfl
  | some u => rw [hl] at hv; cases hv; rfl
theorem StrMap.put (h : StrMap P K w b l) (hk : P.underlying K = some .string) (ht : P.underlying T = some (.map K E)) (hn : l.length < maxLen) {s : ByteArray} (hs : s.size ≤ maxLen) (v : Value) :
    ∃ w', (Instr.mapUpdate T (.map (some b)) (.string s) v).run P w = .ok () w' ∧ StrMap P K w' b (putK l s.data.toList v) ∧ w.grownBy w' (some b) := by
  obtain ⟨n, es, h1, h2, h3, h4⟩ := h
  have hlen : es.length = l.length := by rw [h3.length_eq, List.length_map]
  obtain ⟨w', hrun, r1, r2⟩ := h1.update (string_keyed hk) ht (by omega) (d := .held v) (ps := []) (val := v) (keyOf_string_mk hk hs) rfl
  refine ⟨w', hrun, ⟨_, _, own_tight r1, rfl, ?_, keys_put h4 _ _⟩, r2⟩
  refine (WideShapes.insert_perm _ _).trans ?_
  unfold putK
  rw [List.map_cons]
  refine List.Perm.cons _ ?_
  refine (h3.filter _).trans ?_
  rw [List.filter_map]
  refine List.Perm.of_eq ?_
  congr 1
theorem StrMap.del (h : StrMap P K w b l) (hk : P.underlying K = some .string) (ht : P.underlying T = some (.map K E)) {s : ByteArray} (hs : s.size ≤ maxLen) (ty : TypeId) :
    ∃ w', (Builtin.delete_ #[T, K] ty #[.map (some b), .string s]).run P w = .ok (.tuple #[]) w' ∧ StrMap P K w' b (dropK l s.data.toList) ∧ w.grownBy w' (some b) := by
  obtain ⟨n, es, h1, h2, h3, h4⟩ := h
  obtain ⟨w', hrun, r1, r2⟩ := h1.drop (string_keyed hk) ht (keyOf_string_mk hk hs) ty
  refine ⟨w', hrun, ⟨_, _, own_tight r1, rfl, ?_, h4.filter _⟩, r2.grown⟩
  unfold dropK
  refine (h3.filter _).trans ?_
  rw [List.filter_map]
  refine List.Perm.of_eq ?_
  congr 1
def Ranging (P : Program) (K : TypeId) (w : World) (b r : Nat) (l todo : List KV) (cnt : Nat) : Prop :=
  ∃ n es left, w.ranges P K heldE b r n (.map es) left cnt ∧ es.Perm (l.map toE) ∧ Keys l ∧ Keys todo ∧ ∀ p, p ∈ todo ↔ p ∈ l ∧ left (.string p.1) = true
variable {r : Nat} {todo : List KV} {cnt : Nat}
theorem Ranging.map (h : Ranging P K w b r l todo cnt) : StrMap P K w b l := by
  obtain ⟨n, es, left, h1, h2, h3, _⟩ := h
  exact ⟨_, es, own_tight h1.owns, rfl, h2, h3⟩
theorem Ranging.left_eq (h : Ranging P K w b r l todo cnt) : w.rangeLeft b r = cnt := by
  obtain ⟨n, es, left, h1, _⟩ := h
  exact h1.left_eq
theorem Ranging.lt (h : Ranging P K w b r l todo cnt) : r < w.heap.size ∧ b < w.heap.size ∧ r ≠ b := by
  obtain ⟨n, es, left, h1, _⟩ := h
  exact ⟨h1.lt, h1.owns.lt, h1.ne⟩
theorem Ranging.kept {w' : World} {row : Option Nat} (h : Ranging P K w b r l todo cnt) (hg : w.grownBy w' row) (hb : some b ≠ row) (hr : some r ≠ row) : Ranging P K w' b r l todo cnt := by
  obtain ⟨n, es, left, h1, h2⟩ := h
  exact ⟨n, es, left, h1.kept hg hb hr, h2⟩
theorem Ranging.blocks {w' : World} (h : Ranging P K w b r l todo cnt) (hb : w'.heap[b]? = w.heap[b]?) (hr : w'.heap[r]? = w.heap[r]?) : Ranging P K w' b r l todo cnt := by
  obtain ⟨n, es, left, ⟨xs, clock, since, seen, c0, a1, a2, a3, a4, a5, a6⟩, h2⟩ := h
  exact ⟨n, es, left, ⟨xs, clock, since, seen, c0, hb.trans a1, a2, a3, a4, hr.trans a5, a6⟩, h2⟩
theorem Ranging.below {w' : World} (h : Ranging P K w b r l todo cnt) (hb : Below w.heap.size w w') : Ranging P K w' b r l todo cnt := h.blocks (hb.block b h.lt.2.1) (hb.block r h.lt.1)
theorem StrMap.range (h : StrMap P K w b l) (hk : P.underlying K = some .string) (ht : P.underlying T = some (.map K E)) :
    ∃ w', (Instr.range T (.map (some b))).run P w = .ok (.pointer (some ⟨w.heap.size, 0, none⟩)) w' ∧ Ranging P K w' b w.heap.size l l l.length ∧ w.grownBy w' none ∧ w'.heap.size = w.heap.size + 1 := by
  obtain ⟨n, es, h1, h2, h3, h4⟩ := h
  obtain ⟨w', hrun, r1, r2, r3⟩ := h1.range (string_keyed hk) ht
  have hlen : es.length = l.length := by rw [h3.length_eq, List.length_map]
  refine ⟨w', hrun, ⟨n, es, Maps.has (.map es), ?_, h3, h4, h4, fun p => ⟨fun hp => ⟨hp, ?_⟩, fun hp => hp.1⟩⟩, r2, r3⟩
  · rw [← hlen]; exact r1
  · rw [has_str h3, (look_mem h4).2 (show (p.1, p.2) ∈ l from hp)]; rfl
theorem perm_take {l : List KV} (h : Keys l) {p : KV} (hp : p ∈ l) : l.Perm (p :: l.filter (fun q => q.1 != p.1)) := by
  induction l with
  | nil => cases hp
  | cons q l ih =>
    obtain ⟨n1, n2⟩ := List.nodup_cons.1 (show (q.1 :: l.map Prod.fst).Nodup from h)
    rcases List.mem_cons.1 hp with rfl | hp'
    · rw [List.filter_cons_of_neg (by simp), List.filter_eq_self.2]
      intro x hx
      simp only [bne_iff_ne, ne_eq]
      exact fun e => n1 (List.mem_map.2 ⟨x, hx, e⟩)
    · have hne : (q.1 != p.1) = true := by
        simp only [bne_iff_ne, ne_eq]
        exact fun e => n1 (List.mem_map.2 ⟨p, hp', e.symm⟩)
      rw [List.filter_cons_of_pos (p := fun q : KV => q.1 != p.1) hne]
      exact ((ih n2 hp').cons q).trans (List.Perm.swap _ _ _)
theorem Ranging.next (h : Ranging P K w b r l todo cnt) (hk : P.underlying K = some .string) (ty : TypeId) :
    (cnt = 0 ∧ todo = [] ∧ (Instr.next (.pointer (some ⟨r, 0, none⟩)) false ty).run P w = .ok (.tuple #[.bool false]) w) ∨
    ∃ (s : ByteArray) (v : Value) (todo' : List KV) (w' : World) (cnt' : Nat), s.size ≤ maxLen ∧ todo.Perm ((s.data.toList, v) :: todo') ∧ (Instr.next (.pointer (some ⟨r, 0, none⟩)) false ty).run P w = .ok (.tuple #[.bool true, .string s, v]) w' ∧
      Ranging P K w' b r l todo' cnt' ∧ cnt' < cnt ∧ w.grownBy w' (some r) ∧ w'.heap.size = w.heap.size ∧ (Instr.entry (.pointer (some ⟨r, 0, none⟩))).run P w' = .ok (.tuple #[.string s, v]) w' := by
  obtain ⟨n, es, left, h1, h2, h3, h3', h4⟩ := h
  rcases h1.next (string_keyed hk) ty with ⟨a1, a2, a3⟩ | ⟨key, v, kl, y, w', cnt', hkey, hlk, hv, hat, hrun, hrg, hlt, hgr, hsz, hen⟩
  · refine .inl ⟨a1, ?_, a3⟩
    cases todo with
    | nil => rfl
    | cons p t => have := ((h4 p).1 (by simp)).2; rw [a2] at this; cases this
  · obtain ⟨s, rfl, rfl, hs⟩ : ∃ s : ByteArray, key = .string s ∧ kl = .string s.data.toList ∧ s.size ≤ maxLen := by
      rw [keyOf_string hk] at hkey
      cases key <;> simp [mapKey, hk] at hkey
      rename_i s
      exact ⟨s, rfl, hkey.2.symm, hkey.1⟩
    cases hv
    have hmem : (s.data.toList, v) ∈ l := by
      have e := hat (.lit (.bool true))
      rw [at_str h2 h3] at e
      cases hl : lookK l s.data.toList with
      | none => rw [hl] at e; cases e
      | some u => rw [hl] at e; cases e; exact (look_mem h3).1 hl
    have hm : (s.data.toList, v) ∈ todo := (h4 _).2 ⟨hmem, hlk⟩
    refine .inr ⟨s, v, todo.filter (fun q => q.1 != s.data.toList), w', cnt', hs, perm_take h3' hm, hrun, ⟨n, es, _, hrg, h2, h3, h3'.filter _, fun p => ?_⟩, hlt, hgr, hsz, hen⟩
    rw [List.mem_filter, h4 p]
    have hsk : ((Lit.string p.1).sameKey (.string s.data.toList)) = (p.1 == s.data.toList) := by
      cases hc : (p.1 == s.data.toList) with
      | true => have e : p.1 = s.data.toList := by simpa using hc
                exact sameKey_string.2 (by rw [e])
      | false =>
        cases hq : (Lit.string p.1).sameKey (.string s.data.toList) with
        | false => rfl
        | true => have e := sameKey_string.1 hq; injection e with e; rw [e] at hc; simp at hc
    rw [hsk]
    simp only [bne, Bool.and_eq_true, and_assoc]
variable {ops : Array Oper} {rest : List Oper} {o : Oper} {a : Act} {Q : Exit → Act → World → Prop}
theorem wpList_range_str (hg : o.guard = none) (m : Operand) (hop : o.op = Op.range T m) (hk : P.underlying K = some .string) (ht : P.underlying T = some (.map K E)) (b : Nat) (l : List KV) (hm : a.eval m = .map (some b)) (h : StrMap P K w b l)
    (hK : ∀ w', Ranging P K w' b w.heap.size l l l.length → w.grownBy w' none → w'.heap.size = w.heap.size + 1 → wpList P ops Q rest (a.put o.dst (.pointer (some ⟨w.heap.size, 0, none⟩))) w') :
    wpList P ops Q (o :: rest) a w := by
  refine wpList_plain hg fun K' hK' => ?_
  obtain ⟨w', hrun, r1, r2, r3⟩ := h.range hk ht
  unfold Oper.wp
  simp [execOp, hop, hm, hrun, Result.andThen]
  exact hK' _ _ (hK w' r1 r2 r3)
theorem wpList_next_str (hg : o.guard = none) (it : Operand) (hop : o.op = Op.next it false) (hk : P.underlying K = some .string) (b r : Nat) (l todo : List KV) (cnt : Nat) (hit : a.eval it = .pointer (some ⟨r, 0, none⟩)) (h : Ranging P K w b r l todo cnt)
    (hDone : cnt = 0 → todo = [] → wpList P ops Q rest (a.put o.dst (.tuple #[.bool false])) w)
    (hMore : ∀ (s : ByteArray) (v : Value) (todo' : List KV) (w' : World) (cnt' : Nat), s.size ≤ maxLen → todo.Perm ((s.data.toList, v) :: todo') → Ranging P K w' b r l todo' cnt' → cnt' < cnt → w.grownBy w' (some r) → w'.heap.size = w.heap.size →
      (Instr.entry (.pointer (some ⟨r, 0, none⟩))).run P w' = .ok (.tuple #[.string s, v]) w' → wpList P ops Q rest (a.put o.dst (.tuple #[.bool true, .string s, v])) w') :
    wpList P ops Q (o :: rest) a w := by
  refine wpList_plain hg fun K' hK' => ?_
  unfold Oper.wp
  rcases h.next hk o.type with ⟨h0, hl, hrun⟩ | ⟨s, v, todo', w', cnt', hs, hp, hrun, hrg, hlt, hgr, hsz, hen⟩
  · simp [execOp, hop, hit, hrun, Result.andThen]
    exact hK' _ _ (hDone h0 hl)
  · simp [execOp, hop, hit, hrun, Result.andThen]
    exact hK' _ _ (hMore s v todo' w' cnt' hs hp hrg hlt hgr hsz hen)
theorem wpList_put_str (hg : o.guard = none) (m x y : Operand) (hop : o.op = Op.mapUpdate T m x y) (hk : P.underlying K = some .string) (ht : P.underlying T = some (.map K E)) (b : Nat) (l : List KV) (hm : a.eval m = .map (some b)) (h : StrMap P K w b l) (hn : l.length < maxLen)
    (s : ByteArray) (v : Value) (hx : a.eval x = .string s) (hs : s.size ≤ maxLen) (hy : a.eval y = v)
    (hK : ∀ w', StrMap P K w' b (putK l s.data.toList v) → w.grownBy w' (some b) → wpList P ops Q rest (a.put o.dst undef) w') :
    wpList P ops Q (o :: rest) a w := by
  refine wpList_plain hg fun K' hK' => ?_
  obtain ⟨w', hrun, r1, r2⟩ := h.put hk ht hn hs v
  unfold Oper.wp
  simp [execOp, hop, hm, hx, hy, hrun, Result.andThen]
  exact hK' _ _ (hK w' r1 r2)
theorem wpList_del_str (hg : o.guard = none) (m x : Operand) (hop : o.op = Op.call { callee := Callee.builtin Builtin.delete, args := #[m, x], argTypes := #[T, K] }) (hk : P.underlying K = some .string) (ht : P.underlying T = some (.map K E)) (b : Nat) (l : List KV) (hm : a.eval m = .map (some b)) (h : StrMap P K w b l)
    (s : ByteArray) (hx : a.eval x = .string s) (hs : s.size ≤ maxLen) (hK : ∀ w', StrMap P K w' b (dropK l s.data.toList) → w.grownBy w' (some b) → wpList P ops Q rest (a.put o.dst (.tuple #[])) w') :
    wpList P ops Q (o :: rest) a w := by
  refine wpList_plain hg fun K' hK' => ?_
  obtain ⟨w', hrun, r1, r2⟩ := h.del hk ht hs o.type
  unfold Oper.wp
  simp [execOp, hop, resolve, invoke, builtin, hm, hx, hrun, Result.andThen]
  exact hK' _ _ (hK w' r1 r2)
end
end Go.Proofs.YtgnfknjopafngaaGreatDoor
