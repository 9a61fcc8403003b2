import Derived.Test.YtgnfknjopafngaaGreatDoorKsb
import Derived.Maps.AppendAt
import Derived.Test.YtgnfknjopafngaaGreatDoorKsi
import Derived.Test.YtgnfknjopafngaaGreatDoorKsj
import Derived.Test.YtgnfknjopafngaaGreatDoorKsh
namespace Go.Proofs.YtgnfknjopafngaaGreatDoor
theorem choiceS_short {s : List UInt8} {c : M.Ch} (h : M.choiceS s = some c) (hs : s.length ≤ 8000) : c.name.length ≤ 8000 ∧ c.sign.length ≤ 8000 ∧ c.ver.length ≤ 8000 := by
  have hm := M.cutS_mem s [32]
  unfold M.choiceS at h
  split at h
  · split at h
    · cases h; exact ⟨hs, Nat.zero_le _, Nat.zero_le _⟩
    · cases h
  · rename_i p0 p1 p2 e
    rw [e] at hm
    have h0 := hm p0 (by simp)
    have h1 := hm p1 (by simp)
    have h2 := hm p2 (by simp)
    split at h
    · cases h
      refine ⟨Nat.le_trans h0 hs, ?_, ?_⟩
      · simp only [List.length_drop]; omega
      · simp only [List.length_take]; omega
    · cases h
  · cases h
theorem allS_mem {α : Type} {f : List UInt8 → Option α} : ∀ {l : List (List UInt8)} {r : List α}, M.allS f l = some r → r.length = l.length ∧ ∀ y ∈ r, ∃ x ∈ l, f x = some y
  | [], r, h => by simp only [M.allS, Option.some.injEq] at h; subst h; simp
  | s :: l, r, h => by
    simp only [M.allS] at h
    split at h
    · cases h
    · rename_i c hc
      split at h
      · cases h
      · rename_i r' hr
        cases h
        obtain ⟨h1, h2⟩ := allS_mem hr
        refine ⟨by simp [h1], fun y hy => ?_⟩
        rcases List.mem_cons.mp hy with rfl | hy
        · exact ⟨s, by simp, hc⟩
        · obtain ⟨x, hx, e⟩ := h2 y hy
          exact ⟨x, by simp [hx], e⟩
theorem choicesS_short {s sep : List UInt8} {m : Nat} {l : List M.Ch} (h : M.choicesS s sep m = some l) (hm : m ≤ 1000) (hs : s.length ≤ 8000) : ShortC l := by
  refine ⟨Nat.le_trans (choicesS_len h) hm, ?_⟩
  unfold M.choicesS at h
  split at h
  · cases h
  · rename_i r hr
    split at h
    · cases h
      intro c hc
      obtain ⟨x, hx, e⟩ := (allS_mem hr).2 c hc
      exact choiceS_short e (Nat.le_trans (M.cutS_mem _ _ x hx) hs)
    · cases h
theorem fileS_short {s : List UInt8} {f : M.Fl} (h : M.fileS s = some f) (hs : s.length ≤ 8000) : f.path.length ≤ 8000 ∧ f.content.length ≤ 8000 := by
  unfold M.fileS at h
  split at h
  · cases h
  · split at h
    · cases h
      constructor
      · simp only [List.length_take]; omega
      · simp only [List.length_drop]; omega
    · cases h
theorem titleS_short {s : List UInt8} {a b : List UInt8} (h : M.titleS s = some (a, b)) (hs : s.length ≤ 8000) : a.length ≤ 8000 ∧ b.length ≤ 8000 := by
  have hm := M.cutS_mem s [32]
  unfold M.titleS at h
  split at h
  · rename_i x y z e
    rw [e] at hm
    have h1 := hm y (by simp)
    have h2 := hm z (by simp)
    split at h
    · cases h; exact ⟨by omega, by omega⟩
    · cases h
  · cases h
theorem lineS_short {p q : M.Pk} {k : Nat} {s : List UInt8} (hp : ShortP p) (hs : s.length ≤ 8000) (h : M.lineS p k s = some q) : ShortP q := by
  unfold M.lineS at h
  split at h
  · split at h
    · cases h
    · rename_i a b e
      cases h
      have := titleS_short e hs
      exact ⟨this.1, this.2, hp.needn, hp.needs, hp.bars, hp.filen, hp.files⟩
  · split at h
    · split at h
      · cases h
      · rename_i l hl
        split at h
        · cases h
          refine ⟨hp.name, hp.ver, by show l.length ≤ _; omega, fun g hg => ?_, hp.bars, hp.filen, hp.files⟩
          obtain ⟨x, hx, e⟩ := (allS_mem hl).2 g hg
          refine choicesS_short (s := x) (sep := [32, 124, 32]) (m := 3) e (by decide) ?_
          have := M.cutS_mem _ _ x hx
          simp only [List.length_drop] at this
          omega
        · cases h
    · split at h
      · split at h
        · cases h
        · rename_i l hl
          cases h
          exact ⟨hp.name, hp.ver, hp.needn, hp.needs, choicesS_short hl (by decide) (by simp only [List.length_drop]; omega), hp.filen, hp.files⟩
      · split at h
        · rename_i hc
          split at h
          · cases h
          · rename_i f hf
            split at h
            · cases h
              refine ⟨hp.name, hp.ver, hp.needn, hp.needs, hp.bars, by simp; omega, fun g hg => ?_⟩
              rcases List.mem_append.mp hg with hg | hg
              · exact hp.files g hg
              · simp at hg
                subst hg
                exact fileS_short hf (by simp only [List.length_drop]; omega)
            · cases h
        · cases h
theorem linesS_short : ∀ {l : List (List UInt8)} {k : Nat} {p q : M.Pk}, ShortP p → (∀ x ∈ l, x.length ≤ 8000) → M.linesS l k p = .inr q → ShortP q
  | [], k, p, q, hp, _, h => by simp only [M.linesS, Sum.inr.injEq] at h; subst h; exact hp
  | s :: l, k, p, q, hp, hl, h => by
    simp only [M.linesS] at h
    split at h
    · cases h
    · rename_i p' e
      exact linesS_short (lineS_short hp (hl s (by simp)) e) (fun x hx => hl x (by simp [hx])) h
theorem swapAt_mem {α : Type} {l : List α} {k : Nat} {x : α} (h : x ∈ M.swapAt l k) : x ∈ l := by
  unfold M.swapAt at h
  split at h
  · rename_i a b ha hb
    have ia : a ∈ l := List.mem_of_getElem? ha
    have ib : b ∈ l := List.mem_of_getElem? hb
    rcases List.mem_or_eq_of_mem_set h with h | rfl
    · rcases List.mem_or_eq_of_mem_set h with h | rfl
      · exact h
      · exact ia
    · exact ib
  · exact h
theorem bub_mem : ∀ {k : Nat} {l : List M.Fl} {x : M.Fl}, x ∈ M.bub k l → x ∈ l
  | 0, l, x, h => h
  | k + 1, l, x, h => by
    unfold M.bub at h
    split at h
    · split at h
      · exact swapAt_mem (bub_mem h)
      · exact h
    · exact h
theorem srt_mem : ∀ {m i : Nat} {l : List M.Fl} {x : M.Fl}, x ∈ M.srt m i l → x ∈ l
  | 0, _, l, x, h => h
  | m + 1, i, l, x, h => by
    unfold M.srt at h
    split at h
    · exact bub_mem (srt_mem h)
    · exact h
theorem srt_len : ∀ (m i : Nat) (l : List M.Fl), (M.srt m i l).length = l.length
  | 0, _, l => rfl
  | m + 1, i, l => by
    unfold M.srt
    split
    · rw [srt_len m, M.bub_len]
    · rfl
theorem emptyShort : ShortP M.emptyPk := ⟨by simp [M.emptyPk], by simp [M.emptyPk], by simp [M.emptyPk], by simp [M.emptyPk], ⟨by simp [M.emptyPk], by simp [M.emptyPk]⟩, by simp [M.emptyPk], by simp [M.emptyPk]⟩
theorem trimS_len (s : List UInt8) : (M.trimS s).length ≤ s.length := by
  unfold M.trimS
  split
  · simp
  · exact Nat.le_refl _
theorem readS_short {s : List UInt8} {p : M.Pk} (h : M.readS s = .inr p) : ShortP p := by
  unfold M.readS at h
  split at h
  · cases h
  · rename_i h3
    split at h
    · cases h
    · rename_i q e
      cases h
      have hq := linesS_short emptyShort (fun x hx => by have := M.cutS_mem _ _ x hx; have := trimS_len s; omega) e
      exact ⟨hq.name, hq.ver, hq.needn, hq.needs, hq.bars, by show (M.sortF q.files).length ≤ _; unfold M.sortF; rw [srt_len]; exact hq.filen, fun f hf => hq.files f (srt_mem hf)⟩
end Go.Proofs.YtgnfknjopafngaaGreatDoor
namespace Go.Proofs.YtgnfknjopafngaaGreatDoor
open Go.RowKit
def PkRowG (g : Option Nat) (w : World) : List M.Pk → List Value → Prop
  | [], xs => xs = []
  | p :: l, xs => ∃ nv bv fv xs' lo hi, xs = .string ⟨p.name.toArray⟩ :: .string ⟨p.ver.toArray⟩ :: nv :: bv :: fv :: xs' ∧ hi ≤ w.heap.size ∧ (∀ k, g = some k → k < lo ∨ hi ≤ k) ∧
      NeedsIn w lo hi nv p.needs ∧ RowIn w lo hi bv p.bars.length (chsCells p.bars) ∧ RowIn w lo hi fv p.files.length (flsCells p.files) ∧ PkRowG g w l xs'
theorem PkRowG.row {g : Option Nat} {w : World} {l : List M.Pk} {xs : List Value} (h : PkRowG g w l xs) : PkRow w l xs := by
  induction l generalizing xs with
  | nil => exact h
  | cons p l ih =>
    obtain ⟨nv, bv, fv, xs', lo, hi, rfl, h1, h2, h3, h4, h5, h⟩ := h
    exact ⟨nv, bv, fv, xs', rfl, h3.wide (Nat.zero_le _) h1, h4.wide (Nat.zero_le _) h1, h5.wide (Nat.zero_le _) h1, ih h⟩
theorem PkRowG.grown {g : Option Nat} {w w' : World} {l : List M.Pk} {xs : List Value} (h : PkRowG g w l xs) (hg : w.grownBy w' g) : PkRowG g w' l xs := by
  induction l generalizing xs with
  | nil => exact h
  | cons p l ih =>
    obtain ⟨nv, bv, fv, xs', lo, hi, rfl, h1, h2, h3, h4, h5, h⟩ := h
    have kk : ∀ a o, lo ≤ a → a < hi → CellS w w' a o := fun a o ha hb => blockS (hg.block a (by omega) (fun e => by rcases h2 a e.symm with h | h <;> omega))
    exact ⟨nv, bv, fv, xs', lo, hi, rfl, Nat.le_trans h1 hg.size, h2, h3.keep kk, h4.keep kk, h5.keep kk, ih h⟩
theorem PkRowG.below {g : Option Nat} {w w' : World} {l : List M.Pk} {xs : List Value} (h : PkRowG g w l xs) (hb : Below w.heap.size w w') : PkRowG g w' l xs :=
  h.grown ⟨hb.os, hb.tape, hb.output, hb.size, fun k hk _ => hb.block k hk⟩
theorem PkRowG.step {g g' : Option Nat} {w w' : World} {l : List M.Pk} {xs : List Value} (h : PkRowG g w l xs) (hg : w.grownBy w' g) (hk : g' = g ∨ g' = some w.heap.size) : PkRowG g' w' l xs := by
  rcases hk with rfl | rfl
  · exact h.grown hg
  · induction l generalizing xs with
    | nil => exact h
    | cons p l ih =>
      obtain ⟨nv, bv, fv, xs', lo, hi, rfl, h1, h2, h3, h4, h5, h⟩ := h
      have kk : ∀ a o, lo ≤ a → a < hi → CellS w w' a o := fun a o ha hb => blockS (hg.block a (by omega) (fun e => by rcases h2 a e.symm with h | h <;> omega))
      exact ⟨nv, bv, fv, xs', lo, hi, rfl, Nat.le_trans h1 hg.size, fun k e => .inr (by cases e; exact h1), h3.keep kk, h4.keep kk, h5.keep kk, ih h⟩
theorem PkRowG.snoc {g : Option Nat} {w : World} {l : List M.Pk} {xs : List Value} {p : M.Pk} {lo : Nat} {nv bv fv : Value} (h : PkRowG g w l xs) (hlo : ∀ k, g = some k → k < lo)
    (h1 : NeedsIn w lo w.heap.size nv p.needs) (h2 : RowIn w lo w.heap.size bv p.bars.length (chsCells p.bars)) (h3 : RowIn w lo w.heap.size fv p.files.length (flsCells p.files)) :
    PkRowG g w (l ++ [p]) (xs ++ [.string ⟨p.name.toArray⟩, .string ⟨p.ver.toArray⟩, nv, bv, fv]) := by
  induction l generalizing xs with
  | nil =>
    have e : xs = [] := h
    subst e
    exact ⟨nv, bv, fv, [], lo, w.heap.size, rfl, Nat.le_refl _, fun k e => .inl (hlo k e), h1, h2, h3, rfl⟩
  | cons q l ih =>
    obtain ⟨nv', bv', fv', xs', lo', hi', rfl, a1, a2, a3, a4, a5, a⟩ := h
    exact ⟨nv', bv', fv', xs' ++ _, lo', hi', rfl, a1, a2, a3, a4, a5, ih a⟩
theorem PkRow.snoc {w : World} {l : List M.Pk} {xs : List Value} {p : M.Pk} {nv bv fv : Value} (h : PkRow w l xs)
    (h1 : NeedsIn w 0 w.heap.size nv p.needs) (h2 : RowIn w 0 w.heap.size bv p.bars.length (chsCells p.bars)) (h3 : RowIn w 0 w.heap.size fv p.files.length (flsCells p.files)) :
    PkRow w (l ++ [p]) (xs ++ [.string ⟨p.name.toArray⟩, .string ⟨p.ver.toArray⟩, nv, bv, fv]) :=
  h.app ⟨nv, bv, fv, [], rfl, h1, h2, h3, rfl⟩
theorem read_small {s : List UInt8} {p : M.Pk} (h : M.readS s = .inr p) : SmallP p := by
  have hs := readS_short h
  refine ⟨Nat.le_trans hs.ver (by decide), Nat.le_trans hs.needn (by decide), fun g hg => ?_, Nat.le_trans hs.bars.1 (by decide), fun c hc => Nat.le_trans (hs.bars.2 c hc).2.2 (by decide), Nat.le_trans hs.filen (by decide)⟩
  have := hs.needs g hg
  exact ⟨Nat.le_trans this.1 (by decide), fun c hc => Nat.le_trans (this.2 c hc).2.2 (by decide)⟩
def SmallQ (p : M.Pk) : Prop := SmallP p ∧ ∀ f ∈ p.files, f.path.length ≤ 100000
theorem read_smallQ {s : List UInt8} {p : M.Pk} (h : M.readS s = .inr p) : SmallQ p := ⟨read_small h, fun f hf => Nat.le_trans ((readS_short h).files f hf).1 (by decide)⟩
theorem own_blk {w : World} {B e size n : Nat} {v : Value} {xs : List Value} (h : w.ownsRow B e size v n xs) : ∀ k, v.ownBlock = some k → k < w.heap.size := fun k hk => by
  obtain ⟨_, ⟨rfl, _⟩ | ⟨g, cap, cur, rfl, _, hg, _⟩⟩ := h
  · cases hk
  · injection hk with hk
    subst hk
    exact (Array.getElem?_eq_some_iff.1 hg).1
theorem five_new (w : World) (a b c d e : Value) (t : TypeId) : ∀ j u, [a, b, c, d, e][j]? = some u → (w.alloc (.cells #[a, b, c, d, e] t)).cell? ((⟨w.heap.size, 0, none⟩ : Addr).add j) = some u := fun j u hj => by
  rw [Addr.add_lit, Nat.zero_add]
  exact new_at w [a, b, c, d, e] t j u hj
end Go.Proofs.YtgnfknjopafngaaGreatDoor
namespace Go.Proofs.YtgnfknjopafngaaGreatDoor
open Go.RowKit
def faV (f : M.Fa) : Value := .agg #[.int .i64 f.kind, .int .i64 f.which, .int .i64 f.line, .string ⟨f.name.toArray⟩]
def PkTy (w : World) (v : Value) (l : List M.Pk) : Prop := l ≠ [] → ∀ g o n c, v = .slice (some ⟨g, o, none⟩) n c → ∃ cur fz, w.heap[g]? = some (.cells cur 30 fz)
theorem PkTy.below {w w' : World} {v : Value} {l : List M.Pk} (h : PkTy w v l) (hb : Below w.heap.size w w') : PkTy w' v l := fun h0 g o n c e => by
  obtain ⟨cur, fz, h1⟩ := h h0 g o n c e
  exact ⟨cur, fz, (hb.block g (Array.getElem?_eq_some_iff.1 h1).1).trans h1⟩
theorem PkTy.own {w : World} {B size n : Nat} {v : Value} {l : List M.Pk} {xs : List Value} (h : w.ownsRow B 30 size v n xs) : PkTy w v l := fun _ g o k c e => by
  obtain ⟨_, ⟨rfl, _⟩ | ⟨g2, cap2, cur2, rfl, _, hg2, _⟩⟩ := h
  · cases e
  · cases e
    exact ⟨cur2, _, hg2⟩
theorem PkTy.set {w : World} {v : Value} {l : List M.Pk} (h : PkTy w v l) (b o : Nat) (u : Value) : PkTy (w.setCell ⟨b, o, none⟩ u) v l := fun h0 g o' n c e => by
  obtain ⟨cur, fz, h1⟩ := h h0 g o' n c e
  by_cases hb : b = g
  · subst hb
    exact ⟨cur.setIfInBounds o u, fz, by simp [World.setCell, Array.getElem?_modify, h1]⟩
  · exact ⟨cur, fz, (Below.heap_setCell _ _ _ _ (fun e => hb e.symm)).trans h1⟩
theorem str_of {s : ByteArray} {l : List UInt8} (h : s.data.toList = l) : s = ⟨l.toArray⟩ := by
  subst h
  cases s
  simp
theorem str_ne {s : ByteArray} (h : s.toList.isEmpty = false) : s.data.toList ≠ [] := by
  rw [Lib.toList_data] at h
  intro e
  rw [e] at h
  cases h
theorem str_eq {s : ByteArray} (h : s.toList.isEmpty = true) : s.data.toList = [] := by
  rw [Lib.toList_data] at h
  exact List.isEmpty_iff.1 h
theorem texts_split {ts : List ByteArray} {k : Nat} (hk : k < ts.length) : ts.map (fun p => p.data.toList) = (ts.take k).map (fun p => p.data.toList) ++ ts[k].data.toList :: (ts.drop (k + 1)).map (fun p => p.data.toList) := preL_split hk
theorem texts_take {ts : List ByteArray} {k : Nat} (hk : k < ts.length) : (ts.take (k + 1)).map (fun p => p.data.toList) = (ts.take k).map (fun p => p.data.toList) ++ [ts[k].data.toList] := by
  rw [List.take_succ_eq_append_getElem hk, List.map_append]; rfl
theorem PksIn.same {w w' : World} {v : Value} {l : List M.Pk} (h : PksIn w v l) (hs : w'.heap.size = w.heap.size) (hc : ∀ a, w'.cell? a = w.cell? a) (hb : ∀ g, StrBlk w' g → StrBlk w g) : PksIn w' v l := by
  rcases h with h | ⟨g, off, cap, h1, h2, h3, h4⟩
  · exact .inl h
  · refine .inr ⟨g, off, cap, h1, h2, by omega, fun i p hp => ?_⟩
    obtain ⟨nv, bv, fv, c0, c1, c2, c3, c4, c5, c6, c7⟩ := h4 i p hp
    refine ⟨nv, bv, fv, (hc _).trans c0, (hc _).trans c1, (hc _).trans c2, (hc _).trans c3, (hc _).trans c4, ?_, ?_, ?_⟩
    · rw [hs]; exact c5.keep (fun g _ _ _ => ⟨hc _, hb g⟩)
    · rw [hs]; exact c6.keep (fun g _ _ _ => ⟨hc _, hb g⟩)
    · rw [hs]; exact c7.keep (fun g _ _ _ => ⟨hc _, hb g⟩)
end Go.Proofs.YtgnfknjopafngaaGreatDoor
namespace Go.Proofs.YtgnfknjopafngaaGreatDoor
namespace M
theorem join_cons {sep x : List UInt8} {l : List (List UInt8)} (h : l ≠ []) : joinS sep (x :: l) = x ++ sep ++ joinS sep l := by
  cases l with
  | nil => exact absurd rfl h
  | cons y r => rfl
theorem join_cutA {sep : List UInt8} : ∀ (n : Nat) (cur rest : List UInt8), joinS sep (cutA sep n cur rest) = cur ++ rest
  | 0, cur, rest => rfl
  | n + 1, cur, rest => by
    simp only [cutA]
    split
    · rfl
    · split
      · rename_i h
        rw [join_cons (by intro e; have := (cutA_len (sep := sep) n [] (rest.drop sep.length)).1; rw [e] at this; simp at this), join_cutA n]
        conv => rhs; rw [← List.take_append_drop sep.length rest, h]
        simp
      · rw [join_cutA n, List.append_assoc, List.take_append_drop]
theorem join_cut (s sep : List UInt8) : joinS sep (cutS s sep) = s := join_cutA _ _ _
theorem cut_no {c : UInt8} : ∀ (n : Nat) (s : List UInt8), s.length ≤ n → ∀ x ∈ cutS s [c], c ∉ x := by
  intro n
  induction n with
  | zero =>
    intro s hs x hx
    have : s = [] := List.length_eq_zero_iff.mp (by omega)
    subst this
    rw [(cut_miss (s := []) (c := c) (by simp)).2] at hx
    simp at hx
    subst hx
    simp
  | succ n ih =>
    intro s hs x hx
    rcases cut_cases s c with ⟨h, _, e⟩ | ⟨a, b, rfl, h, _, e⟩
    · rw [e] at hx
      simp at hx
      subst hx
      exact h
    · rw [e] at hx
      rcases List.mem_cons.1 hx with rfl | hx
      · exact h
      · exact ih b (by simp at hs; omega) x hx
theorem cut_join {c : UInt8} : ∀ (l : List (List UInt8)), l ≠ [] → (∀ s ∈ l, c ∉ s) → cutS (joinS [c] l) [c] = l
  | [], h, _ => absurd rfl h
  | [x], _, h => (cut_miss (h x (by simp))).2
  | x :: y :: r, _, h => by
    have e : joinS [c] (x :: y :: r) = x ++ c :: joinS [c] (y :: r) := by simp [joinS]
    rw [e, (cut_hit (h x (by simp))).2, cut_join (y :: r) (by simp) (fun s hs => h s (by simp [hs]))]
theorem join_last {c : UInt8} : ∀ (l : List (List UInt8)), l ≠ [] → (∀ s ∈ l, s ≠ [] ∧ c ∉ s) → joinS [c] l ≠ [] ∧ (joinS [c] l).getLast? ≠ some c
  | [], h, _ => absurd rfl h
  | [x], _, h => by
    refine ⟨(h x (by simp)).1, fun e => (h x (by simp)).2 ?_⟩
    exact List.mem_of_getLast? e
  | x :: y :: r, _, h => by
    obtain ⟨h1, h2⟩ := join_last (c := c) (y :: r) (by simp) (fun s hs => h s (by simp [hs]))
    have e : joinS [c] (x :: y :: r) = x ++ [c] ++ joinS [c] (y :: r) := rfl
    rw [e]
    refine ⟨by simp, ?_⟩
    rw [List.getLast?_append]
    cases hj : (joinS [c] (y :: r)).getLast? with
    | none => exact absurd (List.getLast?_eq_none_iff.1 hj) h1
    | some z => rw [hj] at h2; exact h2
theorem sign_head {p : List UInt8} (h : isSignP p = true) : p = 40 :: p.drop 1 ∧ p.drop 1 ≠ [] := by
  unfold isSignP at h
  simp only [Bool.or_eq_true, beq_iff_eq] at h
  rcases h with (((rfl | rfl) | rfl) | rfl) | rfl <;> decide
theorem choice_text {s : List UInt8} {c : Ch} (h : choiceS s = some c) : chText c = s := by
  have hj := join_cut s [32]
  unfold choiceS at h
  split at h
  · split at h
    · cases h
      simp [chText]
    · cases h
  · rename_i p0 p1 p2 e
    split at h
    · rename_i hc
      obtain ⟨_, h0, _, hs, h41⟩ := hc
      cases h
      obtain ⟨e1, e2⟩ := sign_head hs
      rw [e] at hj
      have e3 : p2 = p2.take (p2.length - 1) ++ [41] := by
        conv => lhs; rw [← List.take_append_drop (p2.length - 1) p2]
        rw [eq_of_beq h41]
      unfold chText
      rw [if_neg e2, ← hj]
      simp only [joinS]
      conv => rhs; rw [e1, e3]
      simp
    · cases h
  · cases h
theorem all_text {α : Type} {f : List UInt8 → Option α} {t : α → List UInt8} (hf : ∀ s c, f s = some c → t c = s) : ∀ {l : List (List UInt8)} {r : List α}, allS f l = some r → r.map t = l
  | [], r, h => by simp only [allS, Option.some.injEq] at h; subst h; rfl
  | s :: l, r, h => by
    simp only [allS] at h
    split at h
    · cases h
    · rename_i c hc
      split at h
      · cases h
      · rename_i r' hr
        cases h
        rw [List.map_cons, hf s c hc, all_text hf hr]
theorem choices_text {s sep : List UInt8} {m : Nat} {l : List Ch} (h : choicesS s sep m = some l) : printedS sep l = s ∧ l ≠ [] := by
  unfold choicesS at h
  split at h
  · cases h
  · rename_i r hr
    split at h
    · cases h
      have e := all_text (t := chText) (fun s c => choice_text) hr
      refine ⟨by unfold printedS; rw [e, join_cut], ?_⟩
      rintro rfl
      have := (cutS_len s sep).1
      rw [← e] at this
      simp at this
    · cases h
theorem groups_text {s : List UInt8} {l : List (List Ch)} (h : allS groupS (cutS s [44, 32]) = some l) : joinS [44, 32] (l.map (printedS [32, 124, 32])) = s ∧ l ≠ [] := by
  have e := all_text (t := printedS [32, 124, 32]) (fun s c hc => (choices_text hc).1) h
  refine ⟨by rw [e, join_cut], ?_⟩
  rintro rfl
  have := (cutS_len s [44, 32]).1
  rw [← e] at this
  simp at this
theorem lead_split : ∀ (s : List UInt8), lead (fun c => decide (c ≠ 61)) s ≠ s.length → s = s.take (lead (fun c => decide (c ≠ 61)) s) ++ 61 :: s.drop (lead (fun c => decide (c ≠ 61)) s + 1)
  | [], h => absurd rfl h
  | b :: s, h => by
    by_cases hb : decide ((b.toNat : Int) ≠ 61) = true
    · have e : lead (fun c => decide (c ≠ 61)) (b :: s) = lead (fun c => decide (c ≠ 61)) s + 1 := by unfold lead; rw [List.takeWhile_cons_of_pos (p := fun b : UInt8 => (fun c : Int => decide (c ≠ 61)) b.toNat) hb]; rfl
      rw [e] at h ⊢
      have := lead_split s (by simpa using h)
      rw [List.take_succ_cons, List.drop_succ_cons, List.cons_append, ← this]
    · have e : lead (fun c => decide (c ≠ 61)) (b :: s) = 0 := by unfold lead; rw [List.takeWhile_cons_of_neg (p := fun b : UInt8 => (fun c : Int => decide (c ≠ 61)) b.toNat) hb]; rfl
      rw [e]
      have : b = 61 := by
        have h1 : (b.toNat : Int) = 61 := by simpa using hb
        exact UInt8.toNat_inj.1 (by simpa using (by omega : b.toNat = 61))
      subst this
      rfl
theorem file_text {s : List UInt8} {f : Fl} (h : fileS s = some f) : f.path ++ [61] ++ f.content = s := by
  unfold fileS at h
  split at h
  · cases h
  · rename_i hl
    split at h
    · cases h
      have := lead_split s hl
      dsimp only
      rw [List.append_assoc]
      exact this.symm
    · cases h
theorem title_text {s a b : List UInt8} (h : titleS s = some (a, b)) : s = [112, 97, 99, 107, 97, 103, 101, 32] ++ a ++ [32] ++ b := by
  have hj := join_cut s [32]
  unfold titleS at h
  split at h
  · rename_i x y z e
    split at h
    · rename_i hc
      cases h
      rw [e] at hj
      rw [← hj, eq_of_beq hc.1]
      simp [joinS]
    · cases h
  · cases h
theorem begins_text {s t : List UInt8} (h : begins s t = true) : s = t ++ s.drop t.length := by
  unfold begins at h
  simp only [Bool.and_eq_true, decide_eq_true_eq, beq_iff_eq] at h
  conv => lhs; rw [← List.take_append_drop t.length s, h.2]
end M
end Go.Proofs.YtgnfknjopafngaaGreatDoor
namespace Go.Proofs.YtgnfknjopafngaaGreatDoor
namespace M
def insR (x : Fl) : List Fl → List Fl
  | [] => [x]
  | y :: r => if Op.bytesLess x.path y.path = true then y :: insR x r else x :: y :: r
theorem swap_at {α : Type} : ∀ (a : List α) (y x : α) (b : List α), swapAt (a ++ y :: x :: b) a.length = a ++ x :: y :: b
  | [], y, x, b => by simp [swapAt]
  | z :: a, y, x, b => by
    have := swap_at a y x b
    have e : swapAt (z :: (a ++ y :: x :: b)) (a.length + 1) = z :: swapAt (a ++ y :: x :: b) a.length := by
      unfold swapAt
      simp only [List.getElem?_cons_succ]
      split <;> simp_all
    rw [List.cons_append, List.length_cons, e, this, List.cons_append]
theorem bub_ins : ∀ (r : List Fl) (x : Fl) (b : List Fl), bub r.length (r.reverse ++ x :: b) = (insR x r).reverse ++ b
  | [], x, b => rfl
  | y :: r, x, b => by
    have e : (y :: r).reverse ++ x :: b = r.reverse ++ y :: x :: b := by simp
    have h1 : (r.reverse ++ y :: x :: b)[r.length]? = some y := by
      rw [List.getElem?_append_right (by simp)]; simp
    have h2 : (r.reverse ++ y :: x :: b)[r.length + 1]? = some x := by
      rw [List.getElem?_append_right (by simp)]; simp
    rw [e, List.length_cons]
    unfold bub
    rw [h1, h2]
    dsimp only
    unfold insR
    by_cases hl : Op.bytesLess x.path y.path = true
    · rw [if_pos hl, if_pos hl]
      have := swap_at r.reverse y x b
      rw [List.length_reverse] at this
      rw [this, bub_ins r x (y :: b)]
      simp
    · rw [if_neg hl, if_neg hl]
      simp
def SortedF (l : List Fl) : Prop := l.Pairwise fun f g => Op.bytesLess g.path f.path = false
def DescF (l : List Fl) : Prop := l.Pairwise fun f g => Op.bytesLess f.path g.path = false
theorem insR_mem {x z : Fl} : ∀ {r : List Fl}, z ∈ insR x r → z = x ∨ z ∈ r
  | [], h => by simp [insR] at h; exact .inl h
  | y :: r, h => by
    unfold insR at h
    split at h
    · rcases List.mem_cons.1 h with rfl | h
      · exact .inr (by simp)
      · rcases insR_mem h with e | h
        · exact .inl e
        · exact .inr (by simp [h])
    · rcases List.mem_cons.1 h with rfl | h
      · exact .inl rfl
      · exact .inr h
theorem insR_desc {x : Fl} : ∀ {r : List Fl}, DescF r → DescF (insR x r)
  | [], _ => by simp [insR, DescF]
  | y :: r, h => by
    obtain ⟨h1, h2⟩ := List.pairwise_cons.1 h
    unfold insR
    split
    · rename_i hl
      refine List.pairwise_cons.2 ⟨fun z hz => ?_, insR_desc h2⟩
      rcases insR_mem hz with rfl | hz
      · exact less_asymm hl
      · exact h1 z hz
    · rename_i hl
      have hl' : Op.bytesLess x.path y.path = false := by simpa using hl
      refine List.pairwise_cons.2 ⟨fun z hz => ?_, h⟩
      rcases List.mem_cons.1 hz with rfl | hz
      · exact hl'
      · exact le_le (h1 z hz) hl'
theorem srt_desc : ∀ (b : List Fl) (m : Nat) (r : List Fl), b.length ≤ m → DescF r → ∃ r', DescF r' ∧ srt m r.length (r.reverse ++ b) = r'.reverse
  | [], m, r, _, h => ⟨r, h, by
    rw [List.append_nil]
    cases m with
    | zero => rfl
    | succ m => unfold srt; rw [if_neg (by simp)]⟩
  | x :: b, m, r, hm, h => by
    obtain ⟨m, rfl⟩ : ∃ k, m = k + 1 := ⟨m - 1, by simp at hm; omega⟩
    have hlen : ∀ (q : List Fl), (insR x q).length = q.length + 1 := by
      intro q
      induction q with
      | nil => rfl
      | cons y q ih => unfold insR; split <;> simp [ih]
    unfold srt
    rw [if_pos (by simp), bub_ins, ← hlen r]
    exact srt_desc b m (insR x r) (by simp at hm; omega) (insR_desc h)
theorem sortF_sorted (l : List Fl) : SortedF (sortF l) := by
  unfold sortF
  cases l with
  | nil => exact List.Pairwise.nil
  | cons x l =>
    obtain ⟨r', h1, h2⟩ := srt_desc l (l.length + 1) [x] (by omega) (by simp [DescF])
    have e : srt (x :: l).length 1 (x :: l) = r'.reverse := h2
    rw [e]
    unfold SortedF
    rw [List.pairwise_reverse]
    exact h1
theorem bub_id {l : List Fl} (h : SortedF l) : ∀ k, bub k l = l
  | 0 => rfl
  | k + 1 => by
    unfold bub
    split
    · rename_i x y hx hy
      obtain ⟨h1, rfl⟩ := List.getElem?_eq_some_iff.1 hx
      obtain ⟨h2, rfl⟩ := List.getElem?_eq_some_iff.1 hy
      have := List.pairwise_iff_getElem.1 h k (k + 1) h1 h2 (by omega)
      rw [if_neg (by rw [this]; simp)]
    · rfl
theorem srt_id {l : List Fl} (h : SortedF l) : ∀ m i, srt m i l = l
  | 0, _ => rfl
  | m + 1, i => by
    unfold srt
    split
    · rw [bub_id h i, srt_id h m]
    · rfl
theorem sortF_id {l : List Fl} (h : SortedF l) : sortF l = l := srt_id h _ _
def titleL (p : Pk) : List UInt8 := [112, 97, 99, 107, 97, 103, 101, 32] ++ p.name ++ [32] ++ p.ver
def needsL (p : Pk) : List (List UInt8) := if p.needs = [] then [] else [needsW ++ joinS [44, 32] (p.needs.map (printedS [32, 124, 32]))]
def barsL (p : Pk) : List (List UInt8) := if p.bars = [] then [] else [barsW ++ printedS [44, 32] p.bars]
def fileL (f : Fl) : List UInt8 := fileW ++ (f.path ++ [61] ++ f.content)
def formL (p : Pk) : List (List UInt8) := titleL p :: (needsL p ++ (barsL p ++ p.files.map fileL))
theorem join_flat (x : List UInt8) : ∀ (l : List (List UInt8)), joinS [10] (x :: l) = x ++ l.flatMap (fun s => 10 :: s)
  | [] => by simp [joinS]
  | y :: l => by rw [join_cons (by simp), join_flat y l]; simp
theorem form_join (p : Pk) : printS p = joinS [10] (formL p) := by
  unfold formL
  rw [join_flat]
  unfold printS titleL needsL barsL needsText barsText
  have e3 : p.files.flatMap fileText = (p.files.map fileL).flatMap (fun s => 10 :: s) := by
    rw [List.flatMap_map]
    rfl
  rw [e3]
  by_cases h1 : p.needs = []
  · by_cases h2 : p.bars = []
    · simp [h1, h2]
    · simp [h1, h2, barsW]
  · by_cases h2 : p.bars = []
    · simp [h1, h2, needsW]
    · simp [h1, h2, needsW, barsW]
structure Valid (p : Pk) : Prop where
  needs : p.needs = [] ∨ (allS groupS (cutS (joinS [44, 32] (p.needs.map (printedS [32, 124, 32]))) [44, 32]) = some p.needs ∧ p.needs.length ≤ 3)
  bars : p.bars = [] ∨ choicesS (printedS [44, 32] p.bars) [44, 32] 3 = some p.bars
  files : ∀ f ∈ p.files, fileS (f.path ++ [61] ++ f.content) = some f
  few : p.files.length ≤ 4
  apart : p.files.Pairwise fun f g => apart f g = true
theorem begins_app (s t : List UInt8) : begins (s ++ t) s = true := by unfold begins; simp
theorem begins_ne {a b : UInt8} {s t : List UInt8} (h : a ≠ b) : begins (a :: s) (b :: t) = false := by
  unfold begins
  simp [h]
theorem line_valid {p q : Pk} {k : Nat} {s : List UInt8} (hk : 0 < k) (hp : Valid p) (h : lineS p k s = some q) : Valid q ∧ printS q = printS p ++ 10 :: s := by
  unfold lineS at h
  rw [if_neg (by omega)] at h
  split at h
  · rename_i hb
    obtain ⟨hb, h0⟩ := hb
    have n0 : p.needs = [] := List.length_eq_zero_iff.mp (by omega)
    have b0 : p.bars = [] := List.length_eq_zero_iff.mp (by omega)
    have f0 : p.files = [] := List.length_eq_zero_iff.mp (by omega)
    split at h
    · cases h
    · rename_i l hl
      split at h
      · rename_i h3
        cases h
        obtain ⟨e1, e2⟩ := groups_text hl
        refine ⟨⟨.inr ⟨by dsimp only; rw [e1]; exact hl, h3⟩, hp.bars, hp.files, hp.few, hp.apart⟩, ?_⟩
        have es := begins_text hb
        unfold printS needsText
        dsimp only
        rw [if_neg e2, e1, n0, b0, f0, if_pos rfl]
        conv => rhs; rw [es]
        simp [barsText, needsW]
      · cases h
  · split at h
    · rename_i hb
      obtain ⟨hb, h0⟩ := hb
      have b0 : p.bars = [] := List.length_eq_zero_iff.mp (by omega)
      have f0 : p.files = [] := List.length_eq_zero_iff.mp (by omega)
      split at h
      · cases h
      · rename_i l hl
        cases h
        obtain ⟨e1, e2⟩ := choices_text hl
        refine ⟨⟨hp.needs, .inr (by dsimp only; rw [e1]; exact hl), hp.files, hp.few, hp.apart⟩, ?_⟩
        have es := begins_text hb
        unfold printS barsText
        dsimp only
        rw [if_neg e2, e1, b0, f0, if_pos rfl]
        conv => rhs; rw [es]
        simp [barsW]
    · split at h
      · rename_i hb
        obtain ⟨hb, h4⟩ := hb
        split at h
        · cases h
        · rename_i f hf
          split at h
          · rename_i ha
            cases h
            have e1 := file_text hf
            refine ⟨⟨hp.needs, hp.bars, fun g hg => ?_, by simp; omega, ?_⟩, ?_⟩
            · rcases List.mem_append.mp hg with hg | hg
              · exact hp.files g hg
              · simp at hg
                subst hg
                rw [e1]
                exact hf
            · show (p.files ++ [f]).Pairwise _
              refine List.pairwise_append.2 ⟨hp.apart, by simp, fun g hg x hx => ?_⟩
              simp at hx
              subst hx
              exact apart_symm (List.all_eq_true.1 ha g hg)
            · have es := begins_text hb
              unfold printS
              dsimp only
              rw [List.flatMap_append]
              conv => rhs; rw [es]
              simp only [List.flatMap_cons, List.flatMap_nil, fileText]
              have : List.drop fileW.length s = f.path ++ [61] ++ f.content := e1.symm
              rw [this]
              simp [fileW]
          · cases h
      · cases h
theorem lines_valid : ∀ {l : List (List UInt8)} {k : Nat} {p q : Pk}, 0 < k → Valid p → linesS l k p = .inr q → Valid q ∧ printS q = printS p ++ l.flatMap (fun s => 10 :: s)
  | [], k, p, q, _, hp, h => by simp only [linesS, Sum.inr.injEq] at h; subst h; exact ⟨hp, by simp⟩
  | s :: l, k, p, q, hk, hp, h => by
    simp only [linesS] at h
    split at h
    · cases h
    · rename_i p' e
      obtain ⟨h1, h2⟩ := line_valid hk hp e
      obtain ⟨h3, h4⟩ := lines_valid (Nat.succ_pos k) h1 h
      exact ⟨h3, by rw [h4, h2]; simp⟩
theorem whole_valid {l : List (List UInt8)} {q : Pk} (hl : l ≠ []) (h : linesS l 0 emptyPk = .inr q) : Valid q ∧ printS q = joinS [10] l ∧ titleS (titleL q) = some (q.name, q.ver) := by
  cases l with
  | nil => exact absurd rfl hl
  | cons x r =>
    simp only [linesS] at h
    split at h
    · cases h
    · rename_i p' hp
      unfold lineS at hp
      rw [if_pos rfl] at hp
      split at hp
      · cases hp
      · rename_i a b ht
        cases hp
        have hv : Valid { emptyPk with name := a, ver := b } := ⟨.inl rfl, .inl rfl, by simp [emptyPk], by simp [emptyPk], by simp [emptyPk]⟩
        obtain ⟨h1, h2⟩ := lines_valid (by omega) hv h
        have e : printS { emptyPk with name := a, ver := b } = x := by
          rw [title_text ht]
          simp [printS, emptyPk, needsText, barsText]
        refine ⟨h1, by rw [h2, e, join_flat], ?_⟩
        have e1 : q.name = a := (lines_name (by omega) h)
        have e2 : q.ver = b := by
          have gen : ∀ {l : List (List UInt8)} {k : Nat} {p q : Pk}, 0 < k → linesS l k p = .inr q → q.ver = p.ver := by
            intro l
            induction l with
            | nil => intro k p q _ h; simp only [linesS, Sum.inr.injEq] at h; subst h; rfl
            | cons s l ih =>
              intro k p q hk h
              simp only [linesS] at h
              split at h
              · cases h
              · rename_i p' e
                rw [ih (Nat.succ_pos k) h]
                unfold lineS at e
                rw [if_neg (by omega)] at e
                split at e
                · split at e
                  · cases e
                  · split at e
                    · cases e; rfl
                    · cases e
                · split at e
                  · split at e
                    · cases e
                    · cases e; rfl
                  · split at e
                    · split at e
                      · cases e
                      · split at e
                        · cases e; rfl
                        · cases e
                    · cases e
          exact gen (by omega) h
        unfold titleL
        rw [e1, e2, ← title_text ht]
        exact ht
end M
end Go.Proofs.YtgnfknjopafngaaGreatDoor
