/-
  MAPS WITH STRINGS AS KEYS AND WHATEVER VALUES: a map as a list of pairs, in no order. Whatever the program.
-/
import Derived.Maps.RangeWalk
import Derived.StringKeys
import Derived.Below
namespace Go.Proofs.YtgnfknjopafngaaGreatDoor
open Go.Maps Go.RowKit
open Go.WideMaps (keyOf_string_mk)

/-- A value as it is. -/
def heldE (v : Value) : Option (DataW Value × List MemPlace) := some (.held v, [])
theorem heldE_inv {v : Value} {y : DataW Value × List MemPlace} (h : heldE v = some y) : y = (.held v, []) := by cases h; rfl
abbrev KV : Type := List UInt8 × Value
def toE (p : KV) : Lit × DataW Value := (.string p.1, .held p.2)
def Keys (l : List KV) : Prop := (l.map Prod.fst).Nodup
theorem Keys.perm {l m : List KV} (h : Keys l) (hp : l.Perm m) : Keys m := (hp.map Prod.fst).nodup_iff.1 h
theorem Keys.eq {l : List KV} (h : Keys l) {k : List UInt8} {v v' : Value} (h1 : (k, v) ∈ l) (h2 : (k, v') ∈ l) : v = v' := by
  induction l with
  | nil => cases h1
  | cons p l ih =>
    obtain ⟨n1, n2⟩ := List.nodup_cons.1 (show (p.1 :: l.map Prod.fst).Nodup from h)
    rcases List.mem_cons.1 h1 with e1 | m1
    · rcases List.mem_cons.1 h2 with e2 | m2
      · rw [← e1] at e2; cases e2; rfl
      · exact absurd (List.mem_map.2 ⟨_, m2, by rw [← e1]⟩) n1
    · rcases List.mem_cons.1 h2 with e2 | m2
      · exact absurd (List.mem_map.2 ⟨_, m1, by rw [← e2]⟩) n1
      · exact ih n2 m1 m2
theorem Keys.filter {l : List KV} (h : Keys l) (f : KV → Bool) : Keys (l.filter f) := List.Nodup.sublist ((List.filter_sublist (p := f) (l := l)).map Prod.fst) h
/-- What stands at a key. -/
def lookK (l : List KV) (k : List UInt8) : Option Value := (l.find? fun p => p.1 == k).map Prod.snd
theorem look_mem {l : List KV} (h : Keys l) {k : List UInt8} {v : Value} : lookK l k = some v ↔ (k, v) ∈ l := by
  unfold lookK
  constructor
  · intro e
    obtain ⟨p, hp, rfl⟩ := Option.map_eq_some_iff.1 e
    have h1 := List.find?_some hp
    have h2 := List.mem_of_find?_eq_some hp
    have : p.1 = k := by simpa using h1
    subst this
    exact h2
  · intro hm
    cases hf : l.find? (fun p => p.1 == k) with
    | none =>
      have := List.find?_eq_none.1 hf _ hm
      simp at this
    | some p =>
      have h1 := List.find?_some hf
      have h2 := List.mem_of_find?_eq_some hf
      have e : p.1 = k := by simpa using h1
      subst e
      rw [Option.map_some, h.eq h2 hm]
theorem look_none {l : List KV} {k : List UInt8} : lookK l k = none ↔ ∀ p ∈ l, p.1 ≠ k := by
  unfold lookK
  rw [Option.map_eq_none_iff, List.find?_eq_none]
  constructor
  · intro h p hp; simpa using h p hp
  · intro h p hp; simpa using h p hp
def putK (l : List KV) (k : List UInt8) (v : Value) : List KV := (k, v) :: l.filter (fun p => p.1 != k)
def dropK (l : List KV) (k : List UInt8) : List KV := l.filter (fun p => p.1 != k)
theorem keys_put {l : List KV} (h : Keys l) (k : List UInt8) (v : Value) : Keys (putK l k v) := by
  refine List.nodup_cons.2 ⟨fun hm => ?_, h.filter _⟩
  obtain ⟨p, hp, e⟩ := List.mem_map.1 hm
  have := (List.mem_filter.1 hp).2
  simp [e] at this

section
variable {P : Program} {K : TypeId}
/-- Block b is a map that has these pairs. -/
def StrMap (P : Program) (K : TypeId) (w : World) (b : Nat) (l : List KV) : Prop :=
  ∃ n es, w.ownsMap P K heldE b n (.map es) ∧ n = es.length ∧ es.Perm (l.map toE) ∧ Keys l
theorem own_tight {w : World} {b n : Nat} {es : List (Lit × DataW Value)} (h : w.ownsMap P K heldE b n (.map es)) : w.ownsMap P K heldE b es.length (.map es) := by
  obtain ⟨xs, clock, hb, F, hs, hD⟩ := h
  refine ⟨xs, clock, hb, F, ?_, hD⟩
  cases hD
  rw [length_sorted]
  simp
theorem StrMap.perm {w : World} {b : Nat} {l m : List KV} (h : StrMap P K w b l) (hp : l.Perm m) : StrMap P K w b m := by
  obtain ⟨n, es, h1, h2, h3, h4⟩ := h
  exact ⟨n, es, h1, h2, h3.trans (hp.map _), h4.perm hp⟩
theorem StrMap.keys {w : World} {b : Nat} {l : List KV} (h : StrMap P K w b l) : Keys l := h.choose_spec.choose_spec.2.2.2
theorem StrMap.lt {w : World} {b : Nat} {l : List KV} (h : StrMap P K w b l) : b < w.heap.size := by
  obtain ⟨n, es, h1, _⟩ := h
  exact h1.lt
theorem StrMap.kept {w w' : World} {b : Nat} {l : List KV} {row : Option Nat} (h : StrMap P K w b l) (hg : w.grownBy w' row) (hne : some b ≠ row) : StrMap P K w' b l := by
  obtain ⟨n, es, h1, h2⟩ := h
  exact ⟨n, es, h1.kept hg hne, h2⟩
theorem StrMap.block {w w' : World} {b : Nat} {l : List KV} (h : StrMap P K w b l) (hb : w'.heap[b]? = w.heap[b]?) : StrMap P K w' b l := by
  obtain ⟨n, es, ⟨xs, clock, h0, h1⟩, h2⟩ := h
  exact ⟨n, es, ⟨xs, clock, hb.trans h0, h1⟩, h2⟩
theorem StrMap.below {w w' : World} {B b : Nat} {l : List KV} (h : StrMap P K w b l) (hb : Below B w w') (hlt : b < B) : StrMap P K w' b l := h.block (hb.block b hlt)
theorem StrMap.made (w : World) : StrMap P K (w.alloc (.map #[] 0)) w.heap.size [] := ⟨0, [], World.ownsMap_made w P K heldE, rfl, .refl _, List.nodup_nil⟩
theorem sameKey_string {a : Lit} {k : List UInt8} : a.sameKey (.string k) = true ↔ a = .string k :=
  ⟨fun h => WideAt.sameKey_eq h, fun h => by subst h; exact WideAt.sameKey_self (by trivial)⟩
theorem has_str {es : List (Lit × DataW Value)} {l : List KV} (h : es.Perm (l.map toE)) (k : List UInt8) : Maps.has (.map es) (.string k) = (lookK l k).isSome := by
  rw [Maps.has_eq]
  cases hl : lookK l k with
  | none =>
    rw [Option.isSome_none, List.any_eq_false]
    intro p hp hs
    obtain ⟨q, hq, rfl⟩ := List.mem_map.1 (h.mem_iff.1 hp)
    have e := sameKey_string.1 hs
    simp only [toE] at e
    cases e
    exact look_none.1 hl q hq rfl
  | some v =>
    rw [Option.isSome_some, List.any_eq_true]
    unfold lookK at hl
    obtain ⟨p, hp, rfl⟩ := Option.map_eq_some_iff.1 hl
    have h1 := List.find?_some hp
    have h2 := List.mem_of_find?_eq_some hp
    have e : p.1 = k := by simpa using h1
    exact ⟨toE p, h.mem_iff.2 (List.mem_map.2 ⟨p, h2, rfl⟩), by subst e; exact sameKey_string.2 rfl⟩
theorem at_str {es : List (Lit × DataW Value)} {l : List KV} (h : es.Perm (l.map toE)) (hk : Keys l) (k : List UInt8) (z : DataW Value) : (DataW.map es).atKey (.string k) z = (match lookK l k with | some v => .held v | none => z) := by
  cases hl : lookK l k with
  | none => exact Maps.atKey_of_not_has (by rw [has_str h, hl]; rfl) z
  | some v =>
    have hm := (look_mem hk).1 hl
    unfold DataW.atKey
    cases hf : es.find? (fun p => p.1.sameKey (.string k)) with
    | none =>
      have := List.find?_eq_none.1 hf _ (h.mem_iff.2 (List.mem_map.2 ⟨_, hm, rfl⟩))
      exact absurd (sameKey_string.2 rfl) this
    | some p =>
      obtain ⟨q, hq, e⟩ := List.mem_map.1 (h.mem_iff.1 (List.mem_of_find?_eq_some hf))
      have e2 := sameKey_string.1 (List.find?_some (p := fun p : Lit × DataW Value => p.1.sameKey (.string k)) hf)
      subst e
      simp only [toE] at e2
      cases e2
      dsimp only
      rw [hf]
      show DataW.held q.2 = _
      rw [hk.eq (v := q.2) (v' := v) hq hm]

variable {w : World} {b : Nat} {l : List KV} {T E : TypeId}
/-- v := m[k] -/
theorem StrMap.look (h : StrMap P K w b l) (hk : P.underlying K = some .string) (ht : P.underlying T = some (.map K E)) {z : Value} (hz : (zeroValue E).run P w = .ok z w) {s : ByteArray} (hs : s.size ≤ maxLen) :
    (Instr.lookup T (.map (some b)) (.string s) false).run P w = .ok ((lookK l s.data.toList).getD z) w := by
  obtain ⟨n, es, h1, h2, h3, h4⟩ := h
  obtain ⟨v, ps, hrun, hv⟩ := h1.lookup (string_keyed hk) ht hz (zd := .held z) (zp := []) rfl (keyOf_string_mk hk hs)
  rw [hrun, at_str h3 h4] at *
  cases hl : lookK l s.data.toList with
  | none => rw [hl] at hv; cases hv; rfl
  | some u => rw [hl] at hv; cases hv; rfl
/-- v, ok := m[k] -/
theorem StrMap.look2 (h : StrMap P K w b l) (hk : P.underlying K = some .string) (ht : P.underlying T = some (.map K E)) {z : Value} (hz : (zeroValue E).run P w = .ok z w) {s : ByteArray} (hs : s.size ≤ maxLen) :
    (Instr.lookup T (.map (some b)) (.string s) true).run P w = .ok (.tuple #[(lookK l s.data.toList).getD z, .bool (lookK l s.data.toList).isSome]) w := by
  obtain ⟨n, es, h1, h2, h3, h4⟩ := h
  obtain ⟨v, ps, hrun, hv⟩ := h1.look_ok (string_keyed hk) ht hz (zd := .held z) (zp := []) rfl (keyOf_string_mk hk hs)
  rw [hrun, has_str h3]
  rw [at_str h3 h4] at hv
  cases hl : lookK l s.data.toList with
  | none => rw [hl] at hv; cases hv; rfl
  | some u => rw [hl] at hv; cases hv; rfl
/-- m[k] = v -/
theorem StrMap.put (h : StrMap P K w b l) (hk : P.underlying K = some .string) (ht : P.underlying T = some (.map K E)) (hn : l.length < maxLen) {s : ByteArray} (hs : s.size ≤ maxLen) (v : Value) :
    ∃ w', (Instr.mapUpdate T (.map (some b)) (.string s) v).run P w = .ok () w' ∧ StrMap P K w' b (putK l s.data.toList v) ∧ w.grownBy w' (some b) := by
  obtain ⟨n, es, h1, h2, h3, h4⟩ := h
  have hlen : es.length = l.length := by rw [h3.length_eq, List.length_map]
  obtain ⟨w', hrun, r1, r2⟩ := h1.update (string_keyed hk) ht (by omega) (d := .held v) (ps := []) (val := v) (keyOf_string_mk hk hs) rfl
  refine ⟨w', hrun, ⟨_, _, own_tight r1, rfl, ?_, keys_put h4 _ _⟩, r2⟩
  refine (WideShapes.insert_perm _ _).trans ?_
  unfold putK
  rw [List.map_cons]
  refine List.Perm.cons _ ?_
  refine (h3.filter _).trans ?_
  rw [List.filter_map]
  refine List.Perm.of_eq ?_
  congr 1
/-- delete(m, k) -/
theorem StrMap.del (h : StrMap P K w b l) (hk : P.underlying K = some .string) (ht : P.underlying T = some (.map K E)) {s : ByteArray} (hs : s.size ≤ maxLen) (ty : TypeId) :
    ∃ w', (Builtin.delete_ #[T, K] ty #[.map (some b), .string s]).run P w = .ok (.tuple #[]) w' ∧ StrMap P K w' b (dropK l s.data.toList) ∧ w.grownBy w' (some b) := by
  obtain ⟨n, es, h1, h2, h3, h4⟩ := h
  obtain ⟨w', hrun, r1, r2⟩ := h1.drop (string_keyed hk) ht (keyOf_string_mk hk hs) ty
  refine ⟨w', hrun, ⟨_, _, own_tight r1, rfl, ?_, h4.filter _⟩, r2.grown⟩
  unfold dropK
  refine (h3.filter _).trans ?_
  rw [List.filter_map]
  refine List.Perm.of_eq ?_
  congr 1

/-- A range over a map, under way: todo: what is still to come. -/
def Ranging (P : Program) (K : TypeId) (w : World) (b r : Nat) (l todo : List KV) (cnt : Nat) : Prop :=
  ∃ n es left, w.ranges P K heldE b r n (.map es) left cnt ∧ es.Perm (l.map toE) ∧ Keys l ∧ Keys todo ∧ ∀ p, p ∈ todo ↔ p ∈ l ∧ left (.string p.1) = true
variable {r : Nat} {todo : List KV} {cnt : Nat}
theorem Ranging.map (h : Ranging P K w b r l todo cnt) : StrMap P K w b l := by
  obtain ⟨n, es, left, h1, h2, h3, _⟩ := h
  exact ⟨_, es, own_tight h1.owns, rfl, h2, h3⟩
theorem Ranging.left_eq (h : Ranging P K w b r l todo cnt) : w.rangeLeft b r = cnt := by
  obtain ⟨n, es, left, h1, _⟩ := h
  exact h1.left_eq
theorem Ranging.lt (h : Ranging P K w b r l todo cnt) : r < w.heap.size ∧ b < w.heap.size ∧ r ≠ b := by
  obtain ⟨n, es, left, h1, _⟩ := h
  exact ⟨h1.lt, h1.owns.lt, h1.ne⟩
theorem Ranging.kept {w' : World} {row : Option Nat} (h : Ranging P K w b r l todo cnt) (hg : w.grownBy w' row) (hb : some b ≠ row) (hr : some r ≠ row) : Ranging P K w' b r l todo cnt := by
  obtain ⟨n, es, left, h1, h2⟩ := h
  exact ⟨n, es, left, h1.kept hg hb hr, h2⟩
theorem Ranging.blocks {w' : World} (h : Ranging P K w b r l todo cnt) (hb : w'.heap[b]? = w.heap[b]?) (hr : w'.heap[r]? = w.heap[r]?) : Ranging P K w' b r l todo cnt := by
  obtain ⟨n, es, left, ⟨xs, clock, since, seen, c0, a1, a2, a3, a4, a5, a6⟩, h2⟩ := h
  exact ⟨n, es, left, ⟨xs, clock, since, seen, c0, hb.trans a1, a2, a3, a4, hr.trans a5, a6⟩, h2⟩
theorem Ranging.below {w' : World} (h : Ranging P K w b r l todo cnt) (hb : Below w.heap.size w w') : Ranging P K w' b r l todo cnt := h.blocks (hb.block b h.lt.2.1) (hb.block r h.lt.1)
/-- range m -/
theorem StrMap.range (h : StrMap P K w b l) (hk : P.underlying K = some .string) (ht : P.underlying T = some (.map K E)) :
    ∃ w', (Instr.range T (.map (some b))).run P w = .ok (.pointer (some ⟨w.heap.size, 0, none⟩)) w' ∧ Ranging P K w' b w.heap.size l l l.length ∧ w.grownBy w' none ∧ w'.heap.size = w.heap.size + 1 := by
  obtain ⟨n, es, h1, h2, h3, h4⟩ := h
  obtain ⟨w', hrun, r1, r2, r3⟩ := h1.range (string_keyed hk) ht
  have hlen : es.length = l.length := by rw [h3.length_eq, List.length_map]
  refine ⟨w', hrun, ⟨n, es, Maps.has (.map es), ?_, h3, h4, h4, fun p => ⟨fun hp => ⟨hp, ?_⟩, fun hp => hp.1⟩⟩, r2, r3⟩
  · rw [← hlen]; exact r1
  · rw [has_str h3, (look_mem h4).2 (show (p.1, p.2) ∈ l from hp)]; rfl
theorem perm_take {l : List KV} (h : Keys l) {p : KV} (hp : p ∈ l) : l.Perm (p :: l.filter (fun q => q.1 != p.1)) := by
  induction l with
  | nil => cases hp
  | cons q l ih =>
    obtain ⟨n1, n2⟩ := List.nodup_cons.1 (show (q.1 :: l.map Prod.fst).Nodup from h)
    rcases List.mem_cons.1 hp with rfl | hp'
    · rw [List.filter_cons_of_neg (by simp), List.filter_eq_self.2]
      intro x hx
      simp only [bne_iff_ne, ne_eq]
      exact fun e => n1 (List.mem_map.2 ⟨x, hx, e⟩)
    · have hne : (q.1 != p.1) = true := by
        simp only [bne_iff_ne, ne_eq]
        exact fun e => n1 (List.mem_map.2 ⟨p, hp', e.symm⟩)
      rw [List.filter_cons_of_pos (p := fun q : KV => q.1 != p.1) hne]
      exact ((ih n2 hp').cons q).trans (List.Perm.swap _ _ _)
/-- the step -/
theorem Ranging.next (h : Ranging P K w b r l todo cnt) (hk : P.underlying K = some .string) (ty : TypeId) :
    (cnt = 0 ∧ todo = [] ∧ (Instr.next (.pointer (some ⟨r, 0, none⟩)) false ty).run P w = .ok (.tuple #[.bool false]) w) ∨
    ∃ (s : ByteArray) (v : Value) (todo' : List KV) (w' : World) (cnt' : Nat), s.size ≤ maxLen ∧ todo.Perm ((s.data.toList, v) :: todo') ∧ (Instr.next (.pointer (some ⟨r, 0, none⟩)) false ty).run P w = .ok (.tuple #[.bool true, .string s, v]) w' ∧
      Ranging P K w' b r l todo' cnt' ∧ cnt' < cnt ∧ w.grownBy w' (some r) ∧ w'.heap.size = w.heap.size ∧ (Instr.entry (.pointer (some ⟨r, 0, none⟩))).run P w' = .ok (.tuple #[.string s, v]) w' := by
  obtain ⟨n, es, left, h1, h2, h3, h3', h4⟩ := h
  rcases h1.next (string_keyed hk) ty with ⟨a1, a2, a3⟩ | ⟨key, v, kl, y, w', cnt', hkey, hlk, hv, hat, hrun, hrg, hlt, hgr, hsz, hen⟩
  · refine .inl ⟨a1, ?_, a3⟩
    cases todo with
    | nil => rfl
    | cons p t => have := ((h4 p).1 (by simp)).2; rw [a2] at this; cases this
  · obtain ⟨s, rfl, rfl, hs⟩ : ∃ s : ByteArray, key = .string s ∧ kl = .string s.data.toList ∧ s.size ≤ maxLen := by
      rw [keyOf_string hk] at hkey
      cases key <;> simp [mapKey, hk] at hkey
      rename_i s
      exact ⟨s, rfl, hkey.2.symm, hkey.1⟩
    cases hv
    have hmem : (s.data.toList, v) ∈ l := by
      have e := hat (.lit (.bool true))
      rw [at_str h2 h3] at e
      cases hl : lookK l s.data.toList with
      | none => rw [hl] at e; cases e
      | some u => rw [hl] at e; cases e; exact (look_mem h3).1 hl
    have hm : (s.data.toList, v) ∈ todo := (h4 _).2 ⟨hmem, hlk⟩
    refine .inr ⟨s, v, todo.filter (fun q => q.1 != s.data.toList), w', cnt', hs, perm_take h3' hm, hrun, ⟨n, es, _, hrg, h2, h3, h3'.filter _, fun p => ?_⟩, hlt, hgr, hsz, hen⟩
    rw [List.mem_filter, h4 p]
    have hsk : ((Lit.string p.1).sameKey (.string s.data.toList)) = (p.1 == s.data.toList) := by
      cases hc : (p.1 == s.data.toList) with
      | true => have e : p.1 = s.data.toList := by simpa using hc
                exact sameKey_string.2 (by rw [e])
      | false =>
        cases hq : (Lit.string p.1).sameKey (.string s.data.toList) with
        | false => rfl
        | true => have e := sameKey_string.1 hq; injection e with e; rw [e] at hc; simp at hc
    rw [hsk]
    simp only [bne, Bool.and_eq_true, and_assoc]

/-! ### at the operations, for the walk -/
variable {ops : Array Oper} {rest : List Oper} {o : Oper} {a : Act} {Q : Exit → Act → World → Prop}
theorem wpList_range_str (hg : o.guard = none) (m : Operand) (hop : o.op = Op.range T m) (hk : P.underlying K = some .string) (ht : P.underlying T = some (.map K E)) (b : Nat) (l : List KV) (hm : a.eval m = .map (some b)) (h : StrMap P K w b l)
    (hK : ∀ w', Ranging P K w' b w.heap.size l l l.length → w.grownBy w' none → w'.heap.size = w.heap.size + 1 → wpList P ops Q rest (a.put o.dst (.pointer (some ⟨w.heap.size, 0, none⟩))) w') :
    wpList P ops Q (o :: rest) a w := by
  refine wpList_plain hg fun K' hK' => ?_
  obtain ⟨w', hrun, r1, r2, r3⟩ := h.range hk ht
  unfold Oper.wp
  simp [execOp, hop, hm, hrun, Result.andThen]
  exact hK' _ _ (hK w' r1 r2 r3)
theorem wpList_next_str (hg : o.guard = none) (it : Operand) (hop : o.op = Op.next it false) (hk : P.underlying K = some .string) (b r : Nat) (l todo : List KV) (cnt : Nat) (hit : a.eval it = .pointer (some ⟨r, 0, none⟩)) (h : Ranging P K w b r l todo cnt)
    (hDone : cnt = 0 → todo = [] → wpList P ops Q rest (a.put o.dst (.tuple #[.bool false])) w)
    (hMore : ∀ (s : ByteArray) (v : Value) (todo' : List KV) (w' : World) (cnt' : Nat), s.size ≤ maxLen → todo.Perm ((s.data.toList, v) :: todo') → Ranging P K w' b r l todo' cnt' → cnt' < cnt → w.grownBy w' (some r) → w'.heap.size = w.heap.size →
      (Instr.entry (.pointer (some ⟨r, 0, none⟩))).run P w' = .ok (.tuple #[.string s, v]) w' → wpList P ops Q rest (a.put o.dst (.tuple #[.bool true, .string s, v])) w') :
    wpList P ops Q (o :: rest) a w := by
  refine wpList_plain hg fun K' hK' => ?_
  unfold Oper.wp
  rcases h.next hk o.type with ⟨h0, hl, hrun⟩ | ⟨s, v, todo', w', cnt', hs, hp, hrun, hrg, hlt, hgr, hsz, hen⟩
  · simp [execOp, hop, hit, hrun, Result.andThen]
    exact hK' _ _ (hDone h0 hl)
  · simp [execOp, hop, hit, hrun, Result.andThen]
    exact hK' _ _ (hMore s v todo' w' cnt' hs hp hrg hlt hgr hsz hen)
theorem wpList_put_str (hg : o.guard = none) (m x y : Operand) (hop : o.op = Op.mapUpdate T m x y) (hk : P.underlying K = some .string) (ht : P.underlying T = some (.map K E)) (b : Nat) (l : List KV) (hm : a.eval m = .map (some b)) (h : StrMap P K w b l) (hn : l.length < maxLen)
    (s : ByteArray) (v : Value) (hx : a.eval x = .string s) (hs : s.size ≤ maxLen) (hy : a.eval y = v)
    (hK : ∀ w', StrMap P K w' b (putK l s.data.toList v) → w.grownBy w' (some b) → wpList P ops Q rest (a.put o.dst undef) w') :
    wpList P ops Q (o :: rest) a w := by
  refine wpList_plain hg fun K' hK' => ?_
  obtain ⟨w', hrun, r1, r2⟩ := h.put hk ht hn hs v
  unfold Oper.wp
  simp [execOp, hop, hm, hx, hy, hrun, Result.andThen]
  exact hK' _ _ (hK w' r1 r2)
theorem wpList_look_str (hg : o.guard = none) (m x : Operand) (hop : o.op = Op.lookup T m x false) (hk : P.underlying K = some .string) (ht : P.underlying T = some (.map K E)) (z : Value) (hz : (zeroValue E).run P w = .ok z w) (b : Nat) (l : List KV) (hm : a.eval m = .map (some b)) (h : StrMap P K w b l)
    (s : ByteArray) (hx : a.eval x = .string s) (hs : s.size ≤ maxLen) (hK : wpList P ops Q rest (a.put o.dst ((lookK l s.data.toList).getD z)) w) :
    wpList P ops Q (o :: rest) a w := by
  refine wpList_plain hg fun K' hK' => ?_
  unfold Oper.wp
  simp [execOp, hop, hm, hx, h.look hk ht hz hs, Result.andThen]
  exact hK' _ _ hK
theorem wpList_look2_str (hg : o.guard = none) (m x : Operand) (hop : o.op = Op.lookup T m x true) (hk : P.underlying K = some .string) (ht : P.underlying T = some (.map K E)) (z : Value) (hz : (zeroValue E).run P w = .ok z w) (b : Nat) (l : List KV) (hm : a.eval m = .map (some b)) (h : StrMap P K w b l)
    (s : ByteArray) (hx : a.eval x = .string s) (hs : s.size ≤ maxLen) (hK : wpList P ops Q rest (a.put o.dst (.tuple #[(lookK l s.data.toList).getD z, .bool (lookK l s.data.toList).isSome])) w) :
    wpList P ops Q (o :: rest) a w := by
  refine wpList_plain hg fun K' hK' => ?_
  unfold Oper.wp
  simp [execOp, hop, hm, hx, h.look2 hk ht hz hs, Result.andThen]
  exact hK' _ _ hK
theorem wpList_del_str (hg : o.guard = none) (m x : Operand) (hop : o.op = Op.call { callee := Callee.builtin Builtin.delete, args := #[m, x], argTypes := #[T, K] }) (hk : P.underlying K = some .string) (ht : P.underlying T = some (.map K E)) (b : Nat) (l : List KV) (hm : a.eval m = .map (some b)) (h : StrMap P K w b l)
    (s : ByteArray) (hx : a.eval x = .string s) (hs : s.size ≤ maxLen) (hK : ∀ w', StrMap P K w' b (dropK l s.data.toList) → w.grownBy w' (some b) → wpList P ops Q rest (a.put o.dst (.tuple #[])) w') :
    wpList P ops Q (o :: rest) a w := by
  refine wpList_plain hg fun K' hK' => ?_
  obtain ⟨w', hrun, r1, r2⟩ := h.del hk ht hs o.type
  unfold Oper.wp
  simp [execOp, hop, resolve, invoke, builtin, hm, hx, hrun, Result.andThen]
  exact hK' _ _ (hK w' r1 r2)
end
end Go.Proofs.YtgnfknjopafngaaGreatDoor
