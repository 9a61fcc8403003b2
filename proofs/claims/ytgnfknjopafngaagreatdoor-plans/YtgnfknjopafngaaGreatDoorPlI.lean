import Derived.Test.YtgnfknjopafngaaGreatDoorPlH
import Derived.ArgAppend
import Derived.Deep.RegionLaw
import Derived.Deep.RegionWith
/-
  PACKAGES IN A ROW: their cells as one list; two rows behind each other; a piece of a row.
-/
namespace Go.Proofs.YtgnfknjopafngaaGreatDoor
open Go.RowKit

/-- The cells of packages, in a row. -/
def PkRow (w : World) : List M.Pk → List Value → Prop
  | [], xs => xs = []
  | p :: l, xs => ∃ nv bv fv xs', xs = .string ⟨p.name.toArray⟩ :: .string ⟨p.ver.toArray⟩ :: nv :: bv :: fv :: xs' ∧
      NeedsIn w 0 w.heap.size nv p.needs ∧ RowIn w 0 w.heap.size bv p.bars.length (chsCells p.bars) ∧ RowIn w 0 w.heap.size fv p.files.length (flsCells p.files) ∧ PkRow w l xs'
theorem PkRow.len {w : World} {l : List M.Pk} {xs : List Value} (h : PkRow w l xs) : xs.length = l.length * 5 := by
  induction l generalizing xs with
  | nil => subst h; rfl
  | cons p l ih =>
    obtain ⟨nv, bv, fv, xs', rfl, _, _, _, h⟩ := h
    have := ih h
    simp only [List.length_cons]
    omega
theorem PkRow.one {w : World} {l : List M.Pk} {xs : List Value} (h : PkRow w l xs) : ∀ u ∈ xs, u.oneCell' = true := by
  induction l generalizing xs with
  | nil => subst h; intro u hu; cases hu
  | cons p l ih =>
    obtain ⟨nv, bv, fv, xs', rfl, h1, h2, h3, h⟩ := h
    obtain ⟨_, _, rfl⟩ := h1.form
    obtain ⟨_, _, rfl⟩ := h2.form
    obtain ⟨_, _, rfl⟩ := h3.form
    intro u hu
    rcases List.mem_cons.1 hu with rfl | hu
    · rfl
    rcases List.mem_cons.1 hu with rfl | hu
    · rfl
    rcases List.mem_cons.1 hu with rfl | hu
    · rfl
    rcases List.mem_cons.1 hu with rfl | hu
    · rfl
    rcases List.mem_cons.1 hu with rfl | hu
    · rfl
    exact ih h u hu
theorem PkRow.app {w : World} {l k : List M.Pk} {xs ys : List Value} (h : PkRow w l xs) (hk : PkRow w k ys) : PkRow w (l ++ k) (xs ++ ys) := by
  induction l generalizing xs with
  | nil => subst h; exact hk
  | cons p l ih =>
    obtain ⟨nv, bv, fv, xs', rfl, h1, h2, h3, h⟩ := h
    exact ⟨nv, bv, fv, xs' ++ ys, rfl, h1, h2, h3, ih h⟩
theorem PkRow.below {w w' : World} {l : List M.Pk} {xs : List Value} (h : PkRow w l xs) (hb : Below w.heap.size w w') : PkRow w' l xs := by
  have kk : ∀ g' o', 0 ≤ g' → g' < w.heap.size → w'.cell? ⟨g', o', none⟩ = w.cell? ⟨g', o', none⟩ := fun g' o' _ hg' => hb.cell (p := ⟨g', o', none⟩) hg'
  induction l generalizing xs with
  | nil => exact h
  | cons p l ih =>
    obtain ⟨nv, bv, fv, xs', rfl, h1, h2, h3, h⟩ := h
    exact ⟨nv, bv, fv, xs', rfl, (h1.keep kk).wide (Nat.zero_le _) hb.size, (h2.keep kk).wide (Nat.zero_le _) hb.size, (h3.keep kk).wide (Nat.zero_le _) hb.size, ih h⟩
theorem PkRow.cells {w : World} {l : List M.Pk} {xs : List Value} {g off : Nat} (h : PkRow w l xs) (hc : ∀ j u, xs[j]? = some u → w.cell? ⟨g, off + j, none⟩ = some u) :
    ∀ (i : Nat) p, l[i]? = some p → PkCell w g (off + i * 5) p := by
  induction l generalizing xs off with
  | nil => intro i p hp; simp at hp
  | cons q l ih =>
    obtain ⟨nv, bv, fv, xs', rfl, h1, h2, h3, h⟩ := h
    intro i p hp
    cases i with
    | zero =>
      simp at hp
      subst hp
      exact ⟨nv, bv, fv, hc 0 _ rfl, hc 1 _ rfl, hc 2 _ rfl, hc 3 _ rfl, hc 4 _ rfl, h1, h2, h3⟩
    | succ i =>
      have := ih (off := off + 5) h (fun j u hu => by
        have := hc (j + 5) u (by simpa using hu)
        rwa [show off + (j + 5) = off + 5 + j by omega] at this) i p (by simpa using hp)
      rwa [show off + 5 + i * 5 = off + (i + 1) * 5 by omega] at this
theorem PkRow.of {w : World} {l : List M.Pk} {g off : Nat} (hc : ∀ (i : Nat) p, l[i]? = some p → PkCell w g (off + i * 5) p) :
    ∃ xs, PkRow w l xs ∧ ∀ j u, xs[j]? = some u → w.cell? ⟨g, off + j, none⟩ = some u := by
  induction l generalizing off with
  | nil => exact ⟨[], rfl, fun j u h => by simp at h⟩
  | cons q l ih =>
    obtain ⟨xs', h, hx⟩ := ih (off := off + 5) (fun i p hp => by
      have := hc (i + 1) p (by simpa using hp)
      rwa [show off + (i + 1) * 5 = off + 5 + i * 5 by omega] at this)
    obtain ⟨nv, bv, fv, c0, c1, c2, c3, c4, h1, h2, h3⟩ := hc 0 q rfl
    refine ⟨_, ⟨nv, bv, fv, xs', rfl, h1, h2, h3, h⟩, fun j u hu => ?_⟩
    match j, hu with
    | 0, hu => simp at hu; subst hu; exact c0
    | 1, hu => simp at hu; subst hu; exact c1
    | 2, hu => simp at hu; subst hu; exact c2
    | 3, hu => simp at hu; subst hu; exact c3
    | 4, hu => simp at hu; subst hu; exact c4
    | j + 5, hu =>
      have := hx j u (by simpa using hu)
      rwa [show off + 5 + j = off + (j + 5) by omega] at this
/-- A row that an append has laid anew. -/
theorem PksIn.own {w : World} {B e : Nat} {v : Value} {l : List M.Pk} {xs : List Value} (h : PkRow w l xs) (ho : w.ownsRow B e 5 v l.length xs) : PksIn w v l := by
  obtain ⟨rfl, h0, rfl⟩ | ⟨g, cap, rfl, h2, _, h4, h5⟩ := RowIn.own ho
  · exact .inl ⟨List.length_eq_zero_iff.mp h0, none, 0, rfl⟩
  · exact .inr ⟨g, 0, cap, rfl, h2, h4, h.cells (fun j u hu => by rw [Nat.zero_add]; exact h5 j u hu)⟩
end Go.Proofs.YtgnfknjopafngaaGreatDoor
/-
  PACKAGES, APPENDED: a full slice of packages, and others behind it.
-/
namespace Go.Proofs.YtgnfknjopafngaaGreatDoor
open Go.RowKit

theorem infoPk : (Tryz.prog.info? 30).map (fun i => (i.zero, i.size, i.bytes)) = some (some (.agg #[.string ⟨#[]⟩, .string ⟨#[]⟩, .slice none 0 0, .slice none 0 0, .slice none 0 0]), 5, 104) := by kernel_rfl

theorem run_append_nothing {P : Program} (w : World) (t ty e : TypeId) (i : TypeInfo) (ht : P.underlying t = some (.slice e)) (hi : P.info? e = some i) (ao ax : Option Addr) (n cap c : Nat) (hn : n ≤ cap) :
    (Builtin.append_ #[t, t] ty #[.slice ao n cap, .slice ax 0 c]).run P w = .ok (.slice ao n cap) w := by
  have hfc : (Builtin.firstCells i.size 0 (.slice ax 0 c)).run P w = .ok #[] w := by
    cases ax with
    | none => exact run_firstCells_none w _ _ _ _
    | some b => exact run_firstCells_some w i.size 0 b 0 c [] (by simp) (fun j v h => by simp at h)
  cases ao with
  | none => simp [Builtin.append_, run_underlying ht, sizeOf, typeInfo, hi, Builtin.lenOf, hn, hfc]
  | some b => simp [Builtin.append_, run_underlying ht, sizeOf, typeInfo, hi, Builtin.lenOf, hn, hfc, storeCells]

/-- Packages in a slice; what they lead to lay in an older world. -/
def SrcIn (w wr : World) (v : Value) (l : List M.Pk) : Prop :=
  (l = [] ∧ ∃ a c, v = .slice a 0 c) ∨ ∃ g off c xs, v = .slice (some ⟨g, off, none⟩) l.length c ∧ l.length ≤ c ∧ PkRow w l xs ∧ g < wr.heap.size ∧ ∀ j u, xs[j]? = some u → wr.cell? ⟨g, off + j, none⟩ = some u
/-- .. and its block is one of packages. -/
def LeftIn (w wr : World) (v : Value) (l : List M.Pk) : Prop :=
  SrcIn w wr v l ∧ (l ≠ [] → ∀ g o n c, v = .slice (some ⟨g, o, none⟩) n c → ∃ cur fz, wr.heap[g]? = some (.cells cur 30 fz))
theorem SrcIn.pks {w wr : World} {v : Value} {l : List M.Pk} (h : SrcIn w wr v l) (hb : Below w.heap.size w wr) : PksIn wr v l := by
  rcases h with h | ⟨g, off, c, xs, rfl, h1, h2, h3, h4⟩
  · exact .inl h
  · exact .inr ⟨g, off, c, rfl, h1, h3, (h2.below hb).cells h4⟩
theorem SrcIn.of {w : World} {v : Value} {l : List M.Pk} (h : PksIn w v l) : SrcIn w w v l := by
  rcases h with h | ⟨g, off, c, rfl, h1, h2, h3⟩
  · exact .inl h
  · obtain ⟨xs, a, b⟩ := PkRow.of h3
    exact .inr ⟨g, off, c, xs, rfl, h1, a, h2, b⟩
theorem SrcIn.keep {w wr w' : World} {v : Value} {l : List M.Pk} (h : SrcIn w wr v l) (hz : wr.heap.size ≤ w'.heap.size) (hk : l ≠ [] → ∀ g o n c, v = .slice (some ⟨g, o, none⟩) n c → g < wr.heap.size → w'.heap[g]? = wr.heap[g]?) : SrcIn w w' v l := by
  by_cases h0 : l = []
  · subst h0
    rcases h with h | ⟨g, off, c, xs, rfl, _⟩
    · exact .inl h
    · exact .inl ⟨rfl, _, _, rfl⟩
  · rcases h with h | ⟨g, off, c, xs, rfl, h1, h2, h3, h4⟩
    · exact .inl h
    · exact .inr ⟨g, off, c, xs, rfl, h1, h2, by omega, fun j u hu => (World.cell?_of_block (a := ⟨g, off + j, none⟩) (hk h0 _ _ _ _ rfl h3)).trans (h4 j u hu)⟩
theorem LeftIn.keep {w wr w' : World} {v : Value} {l : List M.Pk} (h : LeftIn w wr v l) (hz : wr.heap.size ≤ w'.heap.size) (hk : l ≠ [] → ∀ g o n c, v = .slice (some ⟨g, o, none⟩) n c → g < wr.heap.size → w'.heap[g]? = wr.heap[g]?) : LeftIn w w' v l := by
  refine ⟨h.1.keep hz hk, fun h0 g o n c e => ?_⟩
  obtain ⟨cur, fz, h1⟩ := h.2 h0 g o n c e
  exact ⟨cur, fz, (hk h0 g o n c e (Array.getElem?_eq_some_iff.1 h1).1).trans h1⟩
theorem LeftIn.below {w wr w' : World} {v : Value} {l : List M.Pk} (h : LeftIn w wr v l) (hb : Below wr.heap.size wr w') : LeftIn w w' v l := h.keep hb.size (fun _ g _ _ _ _ hg => hb.block g hg)
/-- Behind an append onto a row of another type. -/
theorem LeftIn.grown {w wr w' : World} {v ov : Value} {l : List M.Pk} {B e n : Nat} {xs : List Value} {size : Nat} (h : LeftIn w wr v l) (ho : wr.ownsRow B e size ov n xs) (he : e ≠ 30) (hg : wr.grownBy w' ov.ownBlock) : LeftIn w w' v l := by
  refine h.keep hg.size (fun h0 g o n' c e' hlt => hg.block g hlt fun e2 => ?_)
  obtain ⟨cur, fz, h1⟩ := h.2 h0 g o n' c e'
  obtain ⟨_, ⟨rfl, _⟩ | ⟨g', cap', cur', rfl, _, hg', _⟩⟩ := ho
  · cases e2
  · injection e2 with e2
    subst e2
    rw [hg'] at h1
    injection h1 with h1
    injection h1 with _ h2
    exact he h2
theorem LeftIn.form {w wr : World} {v : Value} {l : List M.Pk} (h : LeftIn w wr v l) : ∃ a cap, v = .slice a l.length cap := by
  rcases h.1 with ⟨rfl, a, c, rfl⟩ | ⟨g, off, cap, xs, rfl, _⟩
  · exact ⟨a, c, rfl⟩
  · exact ⟨_, _, rfl⟩
theorem PkRow.split {w : World} {l1 l2 : List M.Pk} {xs : List Value} (h : PkRow w (l1 ++ l2) xs) : ∃ ys zs, xs = ys ++ zs ∧ PkRow w l1 ys ∧ PkRow w l2 zs := by
  induction l1 generalizing xs with
  | nil => exact ⟨[], xs, rfl, rfl, h⟩
  | cons p l ih =>
    obtain ⟨nv, bv, fv, xs', rfl, h1, h2, h3, h⟩ := h
    obtain ⟨ys, zs, rfl, ha, hb⟩ := ih h
    exact ⟨_, zs, rfl, ⟨nv, bv, fv, ys, rfl, h1, h2, h3, ha⟩, hb⟩
/-- The pieces ahead of the k-th and behind it. -/
theorem LeftIn.cut {w wr : World} {a : Option Addr} {n c : Nat} {l : List M.Pk} (h : LeftIn w wr (.slice a n c) l) {k : Nat} (hk : k < l.length) :
    ∃ g off, a = some ⟨g, off, none⟩ ∧ n = l.length ∧ n ≤ c ∧ LeftIn w wr (.slice (some ⟨g, off, none⟩) k k) (l.take k) ∧ SrcIn w wr (.slice (some ⟨g, off + (k + 1) * 5, none⟩) (l.length - (k + 1)) (c - (k + 1))) (l.drop (k + 1)) := by
  obtain ⟨h, ht⟩ := h
  rcases h with ⟨rfl, _⟩ | ⟨g, off, c', xs, e, h1, h2, h3, h4⟩
  · simp at hk
  · cases e
    have hne : l ≠ [] := fun e => by rw [e] at hk; simp at hk
    have hl : l = l.take k ++ ([l[k]] ++ l.drop (k + 1)) := by simp
    rw [hl] at h2
    obtain ⟨ys, zs, rfl, ha, hb⟩ := h2.split
    obtain ⟨us, vs, rfl, hb1, hb2⟩ := hb.split
    have hy := ha.len
    have hu := hb1.len
    have hy' : ys.length = k * 5 := by rw [hy, List.length_take, Nat.min_eq_left (by omega)]
    simp only [List.length_singleton] at hu
    refine ⟨g, off, rfl, rfl, h1, ⟨.inr ⟨g, off, k, ys, by rw [List.length_take, Nat.min_eq_left (by omega)], by rw [List.length_take]; omega, ha, h3, fun j u hj => h4 j u ?_⟩, fun _ g' o n' c2 e => by cases e; exact ht hne _ _ _ _ rfl⟩, .inr ⟨g, _, _, vs, by rw [List.length_drop], by rw [List.length_drop]; omega, hb2, h3, fun j u hj => ?_⟩⟩
    · rw [List.getElem?_append_left (List.getElem?_eq_some_iff.1 hj).1]; exact hj
    · have := h4 ((k + 1) * 5 + j) u (by rw [List.getElem?_append_right (by omega), List.getElem?_append_right (by omega)]; rw [← hj]; congr 1; omega)
      rwa [← Nat.add_assoc] at this

theorem append_pks (w wr : World) (ty : TypeId) (ao : Option Addr) (cap : Nat) (sv : Value) (l1 l2 : List M.Pk) (h1 : LeftIn w wr (.slice ao l1.length cap) l1) (hcap : cap = l1.length) (hnone : ao = none → l1.length = 0) (h2 : SrcIn w wr sv l2) (hn : l1.length + l2.length ≤ 1000000) :
    ∃ v' w', (Builtin.append_ #[77, 77] ty #[.slice ao l1.length cap, sv]).run Tryz.prog wr = .ok v' w' ∧ LeftIn w w' v' (l1 ++ l2) ∧ Below wr.heap.size wr w' := by
  obtain ⟨i0, hi0, hz0, hz1, hz2⟩ := info_parts infoPk
  subst hcap
  by_cases h0 : l2 = []
  · subst h0
    obtain ⟨a, c, rfl⟩ : ∃ a c, sv = .slice a 0 c := by
      rcases h2 with ⟨_, a, c, rfl⟩ | ⟨g, off, c, xs, rfl, _⟩
      · exact ⟨a, c, rfl⟩
      · exact ⟨_, _, rfl⟩
    refine ⟨_, wr, run_append_nothing wr _ ty _ i0 Tryz.underlying77 hi0 ao a _ _ c (Nat.le_refl _), ?_, Below.refl _ _⟩
    rw [List.append_nil]
    exact h1
  · rcases h2 with ⟨h, _⟩ | ⟨g, off, c, news, rfl, hc, hr2, hg, hc2⟩
    · exact absurd h h0
    · have hnl := hr2.len
      have hpos : 0 < l2.length := List.length_pos_iff.2 h0
      have hcn : ∀ j u, news[j]? = some u → wr.cell? ((⟨g, off, none⟩ : Addr).add j) = some u := fun j u hu => by rw [Addr.add_lit]; exact hc2 j u hu
      obtain ⟨olds, hr1, hc1⟩ : ∃ olds, PkRow w l1 olds ∧ ∀ b, ao = some b → ∀ j u, olds[j]? = some u → wr.cell? (b.add j) = some u := by
        rcases h1.1 with ⟨rfl, a, c', e⟩ | ⟨g', off', c', olds, e, hc', hr1, hg', hc1⟩
        · exact ⟨[], rfl, fun b _ j u h => by simp at h⟩
        · cases e
          exact ⟨olds, hr1, fun b e j u hu => by cases e; rw [Addr.add_lit]; exact hc1 j u hu⟩
      have hol := hr1.len
      have fin : ∀ v' w', w'.ownsRow wr.heap.size 30 5 v' (l1.length + l2.length) (olds ++ news) → wr.grownBy w' none → LeftIn w w' v' (l1 ++ l2) ∧ Below wr.heap.size wr w' := fun v' w' ho hgr => by
        have hB : Below wr.heap.size wr w' := (Below.refl _ wr).grown hgr (Nat.le_refl _) (fun j hj => by simp at hj)
        refine ⟨⟨?_, fun _ g' o' n' c' e => ?_⟩, hB⟩
        · obtain ⟨rfl, h0', _⟩ | ⟨g', cap', rfl, k2, _, k4, k5⟩ := RowIn.own ho
          · omega
          · exact .inr ⟨g', 0, cap', olds ++ news, by rw [List.length_append], by rw [List.length_append]; exact k2, hr1.app hr2, k4, fun j u hu => by rw [Nat.zero_add]; exact k5 j u hu⟩
        · obtain ⟨_, ⟨rfl, _⟩ | ⟨g2, cap2, cur2, rfl, _, hg2, _⟩⟩ := ho
          · cases e
          · cases e
            exact ⟨cur2, _, hg2⟩
      cases ao with
      | some b =>
        obtain ⟨v', w', hrun, r1, r2⟩ := run_append_arg_grows (P := Tryz.prog) wr 77 ty 30 i0 _ 5 104 Tryz.underlying77 hi0 hz0 hz1 hz2 rfl (by decide) b l1.length l1.length olds hol (hc1 b rfl) ⟨g, off, none⟩ l2.length c news hnl hcn (by omega) (by unfold maxLen; omega) (by omega)
        exact ⟨v', w', hrun, fin v' w' r1 r2⟩
      | none =>
        have hl0 := hnone rfl
        obtain rfl : l1 = [] := List.length_eq_zero_iff.mp hl0
        obtain rfl : olds = [] := hr1
        obtain ⟨v', w', hrun, r1, r2, _⟩ := run_append_own (P := Tryz.prog) wr wr.heap.size 77 ty 30 i0 _ 5 104 Tryz.underlying77 hi0 hz0 hz1 hz2 rfl (by decide) (.slice none 0 0) 0 [] (World.ownsRow_nil wr _ _ 5) ⟨g, off, none⟩ l2.length c news hnl hcn hr2.one (by unfold maxLen; omega) (by omega) (Nat.le_refl _)
        exact ⟨v', w', hrun, fin v' w' r1 r2⟩

/-- .. in a walk. -/
theorem wpList_append_pks {wr : World} {ops : Array Oper} {rest : List Oper} {o : Oper} {a : Act} {Q : Exit → Act → World → Prop} (hg : o.guard = none) (s x : Operand)
    (hop : o.op = Op.call { callee := Callee.builtin Builtin.append, args := #[s, x], argTypes := #[77, 77] })
    (w : World) (ao : Option Addr) (cap : Nat) (sv : Value) (l1 l2 : List M.Pk) (hs : a.eval s = .slice ao l1.length cap) (hx : a.eval x = sv) (h1 : LeftIn w wr (.slice ao l1.length cap) l1) (hcap : cap = l1.length) (hnone : ao = none → l1.length = 0) (h2 : SrcIn w wr sv l2) (hn : l1.length + l2.length ≤ 1000000)
    (hK : ∀ v' w', LeftIn w w' v' (l1 ++ l2) → Below wr.heap.size wr w' → wpList Tryz.prog ops Q rest (a.put o.dst v') w') : wpList Tryz.prog ops Q (o :: rest) a wr := by
  refine wpList_plain hg fun K hK' => ?_
  obtain ⟨v', w', hrun, r1, r2⟩ := append_pks w wr o.type ao cap sv l1 l2 h1 hcap hnone h2 hn
  unfold Oper.wp
  simp [execOp, hop, resolve, invoke, builtin, hs, hx, hrun, Result.andThen]
  exact hK' _ _ (hK v' w' r1 r2)
/-- .. as one step of a region that draws. -/
theorem step_append_pks {wr : World} {ops : Array Oper} {o : Oper} {a : Act} {K : Act → World → Prop} {Q : Exit → Act → World → Prop} {E : Prop} (hgd : o.guard = none) (s x : Operand)
    (hop : o.op = Op.call { callee := Callee.builtin Builtin.append, args := #[s, x], argTypes := #[77, 77] })
    (w : World) (ao : Option Addr) (cap : Nat) (sv : Value) (l1 l2 : List M.Pk) (hs : a.eval s = .slice ao l1.length cap) (hx : a.eval x = sv) (h1 : LeftIn w wr (.slice ao l1.length cap) l1) (hcap : cap = l1.length) (hnone : ao = none → l1.length = 0) (h2 : SrcIn w wr sv l2) (hn : l1.length + l2.length ≤ 1000000)
    (hK : ∀ v' w', LeftIn w w' v' (l1 ++ l2) → Below wr.heap.size wr w' → K (a.put o.dst v') w') :
    if Region.wanted o (yielded ops a.tmps) = true then Oper.wp Tryz.prog o a wr K Q else E := by
  rw [if_pos (by simp [Region.wanted, hgd])]
  obtain ⟨v', w', hrun, r1, r2⟩ := append_pks w wr o.type ao cap sv l1 l2 h1 hcap hnone h2 hn
  unfold Oper.wp
  simp [execOp, hop, resolve, invoke, builtin, hs, hx, hrun, Result.andThen]
  exact hK v' w' r1 r2
end Go.Proofs.YtgnfknjopafngaaGreatDoor
/-
  SLICES OF A SLICE OF PACKAGES, where the walk meets them.
-/
namespace Go.Proofs.YtgnfknjopafngaaGreatDoor
open Go.RowKit

theorem pks_elem : Tryz.prog.underlying 77 = some (.slice (Tryz.prog.elem 77)) := by kernel_rfl
theorem pks_size (w : World) : (sizeOf (Tryz.prog.elem 77)).run Tryz.prog w = .ok 5 w := by
  have h : (Tryz.prog.info? (Tryz.prog.elem 77)).map (fun i => i.size) = some 5 := by kernel_rfl
  obtain ⟨i, hi, e⟩ := Option.map_eq_some_iff.1 h
  simp [sizeOf, typeInfo, hi, e]
/-- x[:k:k] -/
theorem sl_ahead (w : World) (g off n c k : Nat) (hk : k ≤ c) :
    (Instr.slice 77 (.slice (some ⟨g, off, none⟩) n c) none (some (.int .i64 k)) (some (.int .i64 k))).run Tryz.prog w = .ok (.slice (some ⟨g, off, none⟩) k k) w := by
  rw [run_slice_hm w _ _ _ _ pks_elem _ _ _ _ (by omega) (by omega) (by omega), pks_size]
  simp only [Result.andThen, sliced]
  by_cases h : k = 0
  · subst h; simp
  · simp [Addr.add_lit]
/-- x[k:] -/
theorem sl_behind (w : World) (g off n c k : Nat) (hk : k ≤ n) :
    (Instr.slice 77 (.slice (some ⟨g, off, none⟩) n c) (some (.int .i64 k)) none none).run Tryz.prog w = .ok (.slice (if c = k then some ⟨g, off, none⟩ else some ⟨g, off + k * 5, none⟩) (n - k) (c - k)) w := by
  rw [run_slice_l w _ _ _ _ pks_elem _ _ (by omega) (by omega), pks_size]
  simp only [Result.andThen, sliced]
  by_cases h : c = k
  · simp [h]
  · simp [h, Addr.add_lit]
end Go.Proofs.YtgnfknjopafngaaGreatDoor
/-
  THE DOCUMENT's ANSWER, WALKED: Order.
-/
namespace Go.Proofs.YtgnfknjopafngaaGreatDoor
open Go.RowKit

/-- Names as cells. -/
def nmCells (l : List (List UInt8)) : List Value := l.map strV
theorem pk_val {w : World} {g o : Nat} {p : M.Pk} (h : PkCell w g o p) : ∃ nv bv fv, w.cell? ⟨g, o, none⟩ = some (.string ⟨p.name.toArray⟩) ∧ w.cell? ⟨g, o + 1, none⟩ = some (.string ⟨p.ver.toArray⟩) ∧ w.cell? ⟨g, o + 2, none⟩ = some nv ∧ w.cell? ⟨g, o + 3, none⟩ = some bv ∧ w.cell? ⟨g, o + 4, none⟩ = some fv ∧
    PkVal w p (.agg #[.string ⟨p.name.toArray⟩, .string ⟨p.ver.toArray⟩, nv, bv, fv]) := by
  obtain ⟨nv, bv, fv, h0, h1, h2, h3, h4, h5, h6, h7⟩ := h
  exact ⟨nv, bv, fv, h0, h1, h2, h3, h4, ⟨nv, bv, fv, rfl, h5, h6, h7⟩⟩

def slLen : Value → Nat
  | .slice _ n _ => n
  | _ => 0
def OrdPost (R : List (List UInt8) × List M.Pk) (w : World) (e : Ending) (w' : World) : Prop :=
  ∃ ov lv, e = .returned (.tuple #[ov, lv]) ∧ RowIn w' 0 w'.heap.size ov R.1.length (nmCells R.1) ∧ PksIn w' lv R.2 ∧ Below w.heap.size w w'

set_option maxRecDepth 100000 in
set_option maxHeartbeats 8000000 in
theorem order_any (fv tv : Value) (fresh l : List M.Pk) (w : World) (hf : PksIn w fv fresh) (hl : PksIn w tv l) (hfn : fresh.length ≤ 100000) (hln : l.length ≤ 1000000) (hsf : ∀ p ∈ fresh, SmallP p) (hs : ∀ p ∈ l, SmallP p) :
    Calls Tryz.prog 112 #[fv, tv] w (OrdPost (M.orderS l fresh.length fresh []) w) := by
  obtain ⟨R, HRR⟩ : ∃ R, Hid (M.orderS l fresh.length fresh [] = R) := ⟨_, rfl⟩
  rw [HRR.out]
  obtain ⟨i0, hi0, hz0, hz1, hz2⟩ := info_parts infoStr
  obtain ⟨al, cl, el⟩ := hl.form
  subst el
  obtain ⟨af, cf, ef⟩ := hf.form
  subst ef
  have HF : Hid (PksIn w (.slice af fresh.length cf) fresh) := hf
  have HL : Hid (PksIn w (.slice al l.length cl) l) := hl
  have HS : Hid (∀ p ∈ l, SmallP p) := hs
  have HSF : Hid (∀ p ∈ fresh, SmallP p) := hsf
  clear hl hs hf hsf
  go_enter Tryz.func112, Tryz.ntmps112
  go_wp2_with (at_builtin; refine wpList_append_pks rfl _ _ rfl w none 0 (.slice af fresh.length cf) [] fresh rfl rfl ⟨.inl ⟨rfl, none, 0, rfl⟩, fun h => absurd rfl h⟩ rfl (fun _ => rfl) (SrcIn.of HF.out) (by simp; omega) ?_; intro v' w1 hv1 hB1)
  rw [List.nil_append] at hv1
  clear HF
  go_loopw [6, 7, 8, 9, 10, 11, 12, 13] (fun ov lv _ _ _ _ _ _ wr => ∃ (out : List (List UInt8)) (left : List M.Pk), LeftIn w wr lv left ∧ left.length + out.length ≤ fresh.length ∧ Below w.heap.size w wr ∧ wr.ownsRow w.heap.size 9 1 ov out.length (nmCells out) ∧ Hid (M.orderS l left.length left out = R) ∧ Hid (∀ p ∈ left, SmallP p)) (fun _ lv _ _ _ _ _ _ _ => slLen lv)
  case atStart => exact ⟨[], fresh, hv1, by simp, hB1, World.ownsRow_nil _ _ _ _, HRR, HSF⟩
  case round =>
    obtain ⟨out, left, hv, hlen, hBr, hout, HO, HSL⟩ := hrel
    obtain ⟨a1, c1, e1⟩ := hv.form
    subst e1
    obtain ⟨ao, co, eo⟩ := own_form hout
    subst eo
    have hB1r : True := trivial
    have hll : left.length ≤ 100000 := by omega
    have HV : Hid (LeftIn w wr (.slice a1 left.length c1) left) := hv
    have HOut : Hid (wr.ownsRow w.heap.size 9 1 (.slice ao out.length co) out.length (nmCells out)) := hout
    clear hv hout
    obtain ⟨W0, hW0⟩ : ∃ W, W = wr := ⟨_, rfl⟩
    subst hW0
    go_wp2
    go_loopw [8, 9, 10, 11, 12] (fun t i _ _ _ wr => ∃ (T : ByteArray) (n : Nat), t = .string T ∧ i = .int .i64 n ∧ n ≤ left.length ∧ Below W0.heap.size W0 wr ∧ Hid (T.data.toList = (List.range n).foldl (M.readyI left l) [])) (fun _ i _ _ _ _ => left.length - (intOf i).toNat)
    case atStart => exact ⟨⟨#[]⟩, 0, rfl, rfl, Nat.zero_le _, Below.refl _ _, rfl⟩
    case round =>
      obtain ⟨T, n, rfl, rfl, hn, hBi, HT⟩ := hrel
      by_cases hlt : n < left.length
      · have hsp := HSL.out _ (List.getElem_mem hlt)
        have HP : Hid (∀ W, Below W0.heap.size W0 W → PksIn W (.slice a1 left.length c1) left) := fun W hb => (HV.out.below hb).1.pks (bt hBr hb)
        obtain ⟨bl, off, rfl, _, hcapl, _⟩ := (HP.out W0 (Below.refl _ _)).cells hlt
        have HC : Hid (∀ W, Below W0.heap.size W0 W → ∀ j (hj : j < left.length), PkCell W bl (off + j * 5) left[j]) := fun W hb j hj => by
          obtain ⟨_, _, e, _, _, h⟩ := (HP.out W hb).cells hj
          cases e
          exact h
        obtain ⟨W1, hW1⟩ : ∃ W, W = wr := ⟨_, rfl⟩
        subst hW1
        go_wp2
        go_loopw [10, 11, 12] (fun f j _ wr => ∃ (F : Bool) (k : Nat), f = .bool F ∧ j = .int .i64 k ∧ k ≤ left.length ∧ Below W0.heap.size W0 wr ∧ Hid (F = (List.range k).foldl (M.holdsS left l n left[n]) true)) (fun _ j _ _ => left.length - (intOf j).toNat)
        case atStart => exact ⟨true, 0, rfl, rfl, Nat.zero_le _, hBi, rfl⟩
        case round =>
          obtain ⟨F, k, rfl, rfl, hk, hBk, HFk⟩ := hrel
          by_cases hlk : k < left.length
          · obtain ⟨nv, bv, fv, p0, p1, p2, p3, p4, hpv⟩ := pk_val (HC.out wr hBk n hlt)
            obtain ⟨nv', bv', fv', q0, q1, q2, q3, q4, hqv⟩ := pk_val (HC.out wr hBk k hlk)
            have cW := fun wx (hb : Below wr.heap.size wr wx) => waits_any left[n] left[k] _ _ (.slice al l.length cl) l wx (hpv.below hb) (hqv.below hb) (HL.out.below (bt hBr (bt hBk hb))) hln hsp (HSL.out _ (List.getElem_mem hlk)) HS.out
            have HG : Hid (∀ f, M.holdsS left l n left[n] f k = if M.waitsS left[n] left[k] l = true ∧ k ≠ n then false else f) := fun f => by
              unfold M.holdsS
              rw [List.getElem?_eq_getElem hlk]
            have hBd : Below wr.heap.size wr wr.drew := below_same wr 1
            generalize M.waitsS left[n] left[k] l = wt at cW HG
            clear hpv hqv
            go_wp2_with fail
            go_region_with (go_at_call 148; refine (cW _ ?_).mono ?_; exact hBd; rintro e w3 ⟨rfl, hB3⟩)
            all_goals
              have hB4 : Below W0.heap.size W0 w3 := bt hBk (bt hBd hB3)
              clear hB3 cW p0 p1 p2 p3 p4 q0 q1 q2 q3 q4 hBd
              cases wt with
              | false =>
                have HF2 : Hid (F = (List.range (k + 1)).foldl (M.holdsS left l n left[n]) true) := by
                  show _ = _
                  rw [fold_range, ← HFk.out, HG.out, if_neg (by rintro ⟨h, _⟩; cases h)]
                go_wp2
                go_roundw
                case rel => exact ⟨F, k + 1, rfl, by go_num, by omega, hB4, HF2⟩
                case measure => simp [intOf]; omega
              | true =>
                by_cases hkn : k = n
                · have hkb : ((k : Int) != n) = false := by simp; omega
                  have HF2 : Hid (F = (List.range (k + 1)).foldl (M.holdsS left l n left[n]) true) := by
                    show _ = _
                    rw [fold_range, ← HFk.out, HG.out, if_neg (by rintro ⟨_, h⟩; exact h hkn)]
                  clear hkn
                  go_wp2
                  go_roundw
                  case rel => exact ⟨F, k + 1, rfl, by go_num, by omega, hB4, HF2⟩
                  case measure => simp [intOf]; omega
                · have hkb : ((k : Int) != n) = true := by simp; omega
                  have HF2 : Hid (false = (List.range (k + 1)).foldl (M.holdsS left l n left[n]) true) := by
                    show _ = _
                    rw [fold_range, ← HFk.out, HG.out, if_pos ⟨rfl, hkn⟩]
                  clear hkn
                  go_wp2
                  go_roundw
                  case rel => exact ⟨false, k + 1, rfl, by go_num, by omega, hB4, HF2⟩
                  case measure => simp [intOf]; omega
          · have hkk : k = left.length := by omega
            have HFF : Hid (M.freeS left l n left[n] = F) := by
              have h := HFk.out
              rw [hkk] at h
              exact h.symm
            have HG : Hid (M.readyI left l T.data.toList n = if M.freeS left l n left[n] = true then M.firstS T.data.toList left[n].name else T.data.toList) := by
              show _ = _
              unfold M.readyI
              rw [List.getElem?_eq_getElem hlt]
            rw [HFF.out] at HG
            clear hkk HFk HFF
            obtain ⟨_, _, _, p0, _⟩ := HC.out wr hBk n hlt
            cases F with
            | true =>
              obtain ⟨Y, hY⟩ : ∃ Y : ByteArray, Y = ⟨left[n].name.toArray⟩ := ⟨_, rfl⟩
              rw [← hY] at p0
              have cF := fun wx => first_any T Y wx
              have HT2 : Hid ((firstB T Y).data.toList = (List.range (n + 1)).foldl (M.readyI left l) []) := by
                show _ = _
                rw [fold_range, ← HT.out, HG.out, if_pos rfl, hY]
                rfl
              generalize firstB T Y = Z at cF HT2
              clear hY
              go_wp2_with (go_at_call 113; refine (cF _).mono ?_; rintro e w' ⟨rfl, rfl⟩)
              go_roundw
              case rel => exact ⟨Z, n + 1, rfl, by go_num, by omega, hBk, HT2⟩
              case measure => simp [intOf]; omega
            | false =>
              have HT2 : Hid (T.data.toList = (List.range (n + 1)).foldl (M.readyI left l) []) := by
                show _ = _
                rw [fold_range, ← HT.out, HG.out, if_neg (by decide)]
              go_wp2
              go_roundw
              case rel => exact ⟨T, n + 1, rfl, by go_num, by omega, hBk, HT2⟩
              case measure => simp [intOf]; omega
      · have hnn : n = left.length := by omega
        have HT2 : Hid (T.data.toList = M.readyS left l) := by
          have h := HT.out
          rw [hnn] at h
          exact h
        clear hnn HT
        by_cases hte : T.toList.isEmpty = true
        · have HE : Hid (R = (out, left)) := by
            show _ = _
            rw [← HO.out]
            exact M.order_end (by rw [← HT2.out]; rw [Lib.toList_data] at hte; exact List.isEmpty_iff.1 hte)
          go_wp2
          refine bodyPost_ret (v := .tuple #[.slice ao out.length co, .slice a1 left.length c1]) (by simp [results, Tryz.results112, go_sem]) rfl ⟨_, _, rfl, ?_, ?_, bt hBr hBi⟩
          · rw [HE.out]
            exact (RowIn.own (own_below HOut.out hBi)).wide (Nat.zero_le _) (Nat.le_refl _)
          · rw [HE.out]
            exact (HV.out.below hBi).1.pks (bt hBr hBi)
        · replace hte : T.toList.isEmpty = false := by simpa using hte
          have hne : M.readyS left l ≠ [] := by
            rw [← HT2.out]
            rw [Lib.toList_data] at hte
            intro e
            rw [e] at hte
            cases hte
          obtain ⟨k, hk, hkf⟩ := M.ready_find hne
          have HStep : Hid (M.orderS l (left.take k ++ left.drop (k + 1)).length (left.take k ++ left.drop (k + 1)) (out ++ [T.data.toList]) = R) := by
            show _ = _
            rw [← HO.out, HT2.out]
            exact (M.order_step hne hk hkf).symm
          have HFind : Hid (findB left T = k) := by
            show M.findS _ _ = _
            unfold M.findS
            rw [HT2.out, hkf]
          have hown1 := own_below HOut.out hBi
          have hv1 := HV.out.below hBi
          have hBw := bt hBr hBi
          clear hne hkf HO
          go_wp2_with (at_builtin; refine wpList_append_own _ rfl _ _ 43 rfl w.heap.size 9 i0 (.string ⟨#[]⟩) 1 16 Tryz.underlying43 hi0 hz0 hz1 hz2 rfl (by decide) _ _ _ rfl (hown1.alloc _) ⟨wr.heap.size, 0, none⟩ 1 1 [.string T] rfl rfl ?c1 ?c2 ?c3 ?c4 ?c5 ?_)
          case c1 => exact one_new _ _ _
          case c2 => intro u hu; simp at hu; subst hu; rfl
          case c3 => unfold maxLen; omega
          case c4 => omega
          case c5 => simp; have := hBw.size; omega
          intro v2 w3 hown' hgrow _
          have R1 : w3.ownsRow w.heap.size 9 1 v2 (out ++ [T.data.toList]).length (nmCells (out ++ [T.data.toList])) := by
            unfold nmCells
            rw [List.map_append, List.length_append]; exact hown'
          have R2 : Below w.heap.size w w3 :=
            (hBw.alloc (by have := hBw.size; omega) _).grown hgrow (by simp; have := hBw.size; omega) (fun j hj => (hown1.lt j hj).1)
          have R3 : LeftIn w w3 (.slice a1 left.length c1) left := (hv1.below ((Below.refl _ wr).alloc (Nat.le_refl _) _)).grown (hown1.alloc _) (by decide) hgrow
          obtain ⟨a2, c2, e2⟩ := own_form R1
          subst e2
          have cN := fun wx (hb : Below w3.heap.size w3 wx) => find_any (.slice a1 left.length c1) left T wx ((R3.below hb).1.pks (bt R2 hb)) (by omega)
          rw [HFind.out] at cN
          clear hown' hgrow hown1 hv1
          go_wp2_with (go_at_call 108; refine (cN _ (Below.refl _ _)).mono ?_; rintro e w4 ⟨rfl, hB4⟩)
          obtain ⟨g, off, rfl, _, hcap, hl1, hs2⟩ := (R3.below hB4).cut hk
          have hl1' := hl1.below (below_same w4 1)
          have hs2' := hs2.keep (w' := w4.drew) (Nat.le_refl _) (fun _ _ _ _ _ _ _ => rfl)
          have hlt2 : k + 1 ≤ left.length := hk
          have e1 : (left.take k).length = k := by rw [List.length_take]; omega
          have e2 : (left.drop (k + 1)).length = left.length - (k + 1) := List.length_drop
          have hA := fun W => sl_ahead W g off left.length c1 k (by omega)
          have hD := fun W => sl_behind W g off left.length c1 (k + 1) (by omega)
          have hw1 : ((k + 1 : Nat) : Int) = (k : Int) + 1 := by omega
          rw [hw1] at hD
          have hw2 : IntKind.i64.wrap ((k : Int) + 1) = (k : Int) + 1 := by rw [IntKind.wrap_i64]; omega
          have hS : SrcIn w w4.drew (.slice (if c1 = k + 1 then some ⟨g, off, none⟩ else some ⟨g, off + (k + 1) * 5, none⟩) (left.length - (k + 1)) (c1 - (k + 1))) (left.drop (k + 1)) := by
            by_cases hc : c1 = k + 1
            · exact .inl ⟨List.length_eq_zero_iff.mp (by rw [e2]; omega), if c1 = k + 1 then some ⟨g, off, none⟩ else some ⟨g, off + (k + 1) * 5, none⟩, c1 - (k + 1), by rw [show left.length - (k + 1) = 0 by omega]⟩
            · rw [if_neg hc]; exact hs2'
          obtain ⟨V, hV⟩ : ∃ V, V = Value.slice (if c1 = k + 1 then some ⟨g, off, none⟩ else some ⟨g, off + (k + 1) * 5, none⟩) (left.length - (k + 1)) (c1 - (k + 1)) := ⟨_, rfl⟩
          rw [← hV] at hS hD
          clear hV hs2' hs2 hw1 e2
          have HS1 : Hid (LeftIn w w4.drew (.slice (some ⟨g, off, none⟩) k k) (left.take k)) := hl1'
          have HS2 : Hid (SrcIn w w4.drew V (left.drop (k + 1))) := hS
          clear hl1' hS hl1
          clear R3 cN hcap hlt2 HV HOut
          go_wp2
          go_region_law (refine step_append_pks rfl (.tmp 66) (.tmp 70) rfl w (some ⟨g, off, none⟩) (left.take k).length V (left.take k) (left.drop (k + 1)) (by rw [e1]; simp [Act.eval, Act.put]) (by simp [Act.eval, Act.put]) (by rw [e1]; exact HS1.out) rfl (fun h => by cases h) (by exact HS2.out) (by rw [e1, List.length_drop]; omega) ?_; intro v5 w5 hv5 hB5)
          have hB6 : Below w4.heap.size w4 w5 := bt (below_same w4 1) hB5
          have hlen2 : (left.take k ++ left.drop (k + 1)).length = left.length - 1 := by rw [List.length_append, e1, List.length_drop]; omega
          obtain ⟨a5, c5, rfl⟩ := hv5.form
          have R5 : w5.ownsRow w.heap.size 9 1 (.slice a2 (out ++ [T.data.toList]).length c2) (out ++ [T.data.toList]).length (nmCells (out ++ [T.data.toList])) := own_below (own_below R1 hB4) hB6
          have RB : Below w.heap.size w w5 := bt R2 (bt hB4 hB6)
          have HSL2 : Hid (∀ p ∈ left.take k ++ left.drop (k + 1), SmallP p) := fun p hp => HSL.out p (by
            rcases List.mem_append.1 hp with hp | hp
            · exact List.mem_of_mem_take hp
            · exact List.mem_of_mem_drop hp)
          have HL5 : Hid (LeftIn w w5 (.slice a5 (left.take k ++ left.drop (k + 1)).length c5) (left.take k ++ left.drop (k + 1))) := hv5
          clear hv5 hB5 hB6 HS1 HS2 hA hD hw2
          simp only [Act.put, List.getElem_toArray, List.getElem_cons_succ, List.getElem_cons_zero, List.setIfInBounds_toArray, List.set_cons_succ, List.set_cons_zero]
          go_wp2
          go_roundw
          case rel =>
            refine ⟨out ++ [T.data.toList], left.take k ++ left.drop (k + 1), ?_, ?_, RB, ?_, HStep, HSL2⟩
            · first | exact HL5.out | (rw [hlen2]; exact HL5.out) | (have := HL5.out; rw [hlen2] at this; exact this)
            · rw [hlen2, List.length_append]; simp; omega
            · first | exact R5 | (have := R5; rw [List.length_append] at this ⊢; exact this)
          case measure => simp only [slLen, hlen2]; omega
end Go.Proofs.YtgnfknjopafngaaGreatDoor
