import Derived.Test.YtgnfknjopafngaaGreatDoorKsa
import GoSem.Op.String
import Derived.Deep.RegionLaw
namespace Go.Proofs.YtgnfknjopafngaaGreatDoor
open Go.RowKit
theorem own_apart {w : World} {B B' e e' size size' n n' : Nat} {v u : Value} {xs ys : List Value} (h : w.ownsRow B e size v n xs) (k : w.ownsRow B' e' size' u n' ys) (he : e ≠ e') : u.ownBlock = none ∨ u.ownBlock ≠ v.ownBlock := by
  obtain ⟨_, ⟨rfl, _⟩ | ⟨g, cap, cur, rfl, _, hg, _⟩⟩ := k
  · exact .inl rfl
  · right
    obtain ⟨_, ⟨rfl, _⟩ | ⟨g', cap', cur', rfl, _, hg', _⟩⟩ := h
    · simp [Value.ownBlock]
    · intro e1
      have e2 : g = g' := by simpa [Value.ownBlock] using e1
      subst e2
      rw [hg] at hg'
      simp at hg'
      exact he hg'.2.symm
def GroupsAt (w : World) (B : Nat) (v : Value) (ls : List (List M.Ch)) : Prop :=
  ∃ vs : List Value, w.ownsRow B 27 1 v ls.length vs ∧ ∀ (i : Nat) x, ls[i]? = some x → ∃ u, vs[i]? = some u ∧ w.ownsRow B 125 3 u x.length (chsCells x)
theorem GroupsAt.nil (w : World) (B : Nat) : GroupsAt w B (.slice none 0 0) [] := ⟨[], World.ownsRow_nil _ _ _ _, fun i x h => by simp at h⟩
theorem GroupsAt.below {w w' : World} {B : Nat} {v : Value} {ls : List (List M.Ch)} (h : GroupsAt w B v ls) (hb : Below w.heap.size w w') : GroupsAt w' B v ls := by
  obtain ⟨vs, h1, h2⟩ := h
  exact ⟨vs, own_below h1 hb, fun i x hx => by obtain ⟨u, a, b⟩ := h2 i x hx; exact ⟨u, a, own_below b hb⟩⟩
theorem GroupsAt.set {w : World} {B b o : Nat} {v x : Value} {ls : List (List M.Ch)} (h : GroupsAt w B v ls) (hb : b < B) : GroupsAt (w.setCell ⟨b, o, none⟩ x) B v ls := by
  obtain ⟨vs, h1, h2⟩ := h
  exact ⟨vs, ownsRow_setCell_below h1 hb _, fun i y hy => by obtain ⟨u, a, c⟩ := h2 i y hy; exact ⟨u, a, ownsRow_setCell_below c hb _⟩⟩
theorem GroupsAt.needs {w : World} {B lo : Nat} {v : Value} {ls : List (List M.Ch)} (h : GroupsAt w B v ls) (hl : lo ≤ B) : NeedsIn w lo w.heap.size v ls := by
  obtain ⟨vs, h1, h2⟩ := h
  refine ⟨vs, (RowIn.own h1).wide hl (Nat.le_refl _), by have := h1.1; omega, fun i x hx => ?_⟩
  obtain ⟨u, a, b⟩ := h2 i x hx
  exact ⟨u, a, (RowIn.own b).wide hl (Nat.le_refl _)⟩
theorem GroupsAt.push {w w1 : World} {B : Nat} {v v' u : Value} {ls : List (List M.Ch)} {l : List M.Ch} {vs : List Value} {o : Obj} (h1 : w.ownsRow B 27 1 v ls.length vs)
    (h2 : ∀ (i : Nat) x, ls[i]? = some x → ∃ u, vs[i]? = some u ∧ w.ownsRow B 125 3 u x.length (chsCells x))
    (hu : w.ownsRow B 125 3 u l.length (chsCells l)) (ho : w1.ownsRow B 27 1 v' (ls.length + 1) (vs ++ [u])) (hg : (w.alloc o).grownBy w1 v.ownBlock) : GroupsAt w1 B v' (ls ++ [l]) := by
  have keep : ∀ {x : Value} {n : Nat} {ys : List Value}, w.ownsRow B 125 3 x n ys → w1.ownsRow B 125 3 x n ys := fun hx =>
    (hx.alloc o).kept hg (own_apart h1 hx (by decide))
  have hl : vs.length = ls.length := by have := h1.1; omega
  refine ⟨vs ++ [u], by simpa using ho, fun i x hx => ?_⟩
  by_cases hi : i < ls.length
  · rw [List.getElem?_append_left hi] at hx
    obtain ⟨y, a, b⟩ := h2 i x hx
    exact ⟨y, by rw [List.getElem?_append_left (by omega)]; exact a, keep b⟩
  · rw [List.getElem?_append_right (by omega)] at hx
    have hi0 : i - ls.length = 0 := by
      by_cases e : i - ls.length = 0
      · exact e
      · rw [List.getElem?_eq_none (by simp; omega)] at hx; cases hx
    rw [hi0] at hx
    simp at hx
    subst hx
    exact ⟨u, by rw [List.getElem?_append_right (by omega), hl, hi0]; rfl, keep hu⟩
structure Kept (w w' : World) (pb : Nat) : Prop where
  cells : ∀ g o, g < w.heap.size → g ≠ pb → CellS w w' g o
  own : ∀ o, o ≠ 2 → w'.cell? ⟨pb, o, none⟩ = w.cell? ⟨pb, o, none⟩
  fz : ∀ o, w'.frozen? ⟨pb, o, none⟩ = w.frozen? ⟨pb, o, none⟩
  size : w.heap.size ≤ w'.heap.size
  low : Below pb w w'
theorem Kept.refl (w : World) (pb : Nat) : Kept w w pb := ⟨fun _ _ _ _ => blockS rfl, fun _ _ => rfl, fun _ => rfl, Nat.le_refl _, Below.refl _ _⟩
theorem Kept.below {w w1 w2 : World} {pb : Nat} (h : Kept w w1 pb) (hp : pb < w.heap.size) (hb : Below w1.heap.size w1 w2) : Kept w w2 pb := by
  have hs := h.size
  refine ⟨fun g o hg hn => (belowS hb (by show g < _; omega)).trans (h.cells g o hg hn), fun o ho => (hb.cell (p := ⟨pb, o, none⟩) (by show pb < _; omega)).trans (h.own o ho),
    fun o => (hb.frozen (p := ⟨pb, o, none⟩) (by show pb < _; omega)).trans (h.fz o), Nat.le_trans hs hb.size, h.low.trans (hb.mono (by omega))⟩
theorem Kept.push {w w1 wx w2 : World} {pb : Nat} {v x : Value} {e size n : Nat} {xs : List Value} (h : Kept w w1 pb) (hp : pb < w.heap.size) (hb : Below w1.heap.size w1 wx) (ho : wx.ownsRow w.heap.size e size v n xs) (hg : wx.grownBy w2 v.ownBlock) :
    Kept w (w2.setCell ⟨pb, 2, none⟩ x) pb := by
  have h1 := h.below hp hb
  have hz := h1.size
  have k : ∀ g o, g < w.heap.size → w2.cell? ⟨g, o, none⟩ = wx.cell? ⟨g, o, none⟩ ∧ w2.frozen? ⟨g, o, none⟩ = wx.frozen? ⟨g, o, none⟩ := fun g o hgw => by
    have hne : some g ≠ v.ownBlock := fun e => by have := (ho.lt g e.symm).1; omega
    exact ⟨World.cell?_of_block (w := wx) (a := ⟨g, o, none⟩) (hg.block g (by omega) hne), World.frozen?_of_block (w := wx) (a := ⟨g, o, none⟩) (hg.block g (by omega) hne)⟩
  refine ⟨fun g o hgw hn => ?_, fun o hn => ?_, fun o => ?_, ?_, ?_⟩
  · exact ((setS hn).trans (blockS (hg.block g (by omega) (fun e => by have := (ho.lt g e.symm).1; omega)))).trans (h1.cells g o hgw hn)
  · rw [cell_set_off _ _ _ _ _ hn, (k pb o hp).1]; exact h1.own o hn
  · rw [World.frozen?_setCell, (k pb o hp).2]; exact h1.fz o
  · rw [size_set]; exact Nat.le_trans hz hg.size
  · exact (h1.low.grown hg (by omega) (fun j hj => by have := (ho.lt j hj).1; omega)).setCell (Nat.le_refl _) _
theorem PAt.needs' {w w2 : World} {pb B : Nat} {p : M.Pk} {nv bv fv v : Value} {ls : List (List M.Ch)} (h : PAt w pb B p nv bv fv) (hk : Kept w w2 pb) (hf : p.files = []) (hv : w2.cell? ⟨pb, 2, none⟩ = some v) (hls : ls ≠ [])
    (hG : GroupsAt w2 w.heap.size v ls) : PAt w2 pb w2.heap.size { p with needs := ls } v bv fv := by
  have hlt := h.lt
  have hle := h.le
  have hs := hk.size
  have e := h.fnil hf
  subst e
  refine ⟨(hk.own 0 (by decide)).trans h.c0, (hk.own 1 (by decide)).trans h.c1, hv, (hk.own 3 (by decide)).trans h.c3, (hk.own 4 (by decide)).trans h.c4, fun o => (hk.fz o).trans (h.fz o), by omega, Nat.le_refl _,
    hG.needs (by omega), (h.bars.keep (fun g o hg1 hg2 => hk.cells g o (by omega) (by omega))).wide (Nat.le_refl _) (by omega), ?_, fun e => absurd e hls, fun _ => rfl⟩
  show World.ownsRow _ _ _ _ _ p.files.length (flsCells p.files)
  rw [hf]; exact World.ownsRow_nil _ _ _ _
end Go.Proofs.YtgnfknjopafngaaGreatDoor
namespace Go.Proofs.YtgnfknjopafngaaGreatDoor
open Go.RowKit
theorem choicesS_len {s sep : List UInt8} {m : Nat} {l : List M.Ch} (h : M.choicesS s sep m = some l) : l.length ≤ m := by
  unfold M.choicesS at h
  split at h
  · cases h
  · split at h
    · cases h; assumption
    · cases h
end Go.Proofs.YtgnfknjopafngaaGreatDoor
namespace Go.Proofs.YtgnfknjopafngaaGreatDoor
namespace M
def linesS : List (List UInt8) → Nat → Pk → Sum Nat Pk
  | [], _, p => .inr p
  | l :: r, k, p => match lineS p k l with
    | none => .inl (k + 1)
    | some q => linesS r (k + 1) q
def emptyPk : Pk := ⟨[], [], [], [], []⟩
def swapAt {α : Type} (l : List α) (k : Nat) : List α := match l[k]?, l[k + 1]? with
  | some x, some y => (l.set (k + 1) x).set k y
  | _, _ => l
def bub : Nat → List Fl → List Fl
  | 0, l => l
  | k + 1, l => match l[k]?, l[k + 1]? with
    | some x, some y => if Op.bytesLess y.path x.path = true then bub k (swapAt l k) else l
    | _, _ => l
def srt : Nat → Nat → List Fl → List Fl
  | 0, _, l => l
  | m + 1, i, l => if i < l.length then srt m (i + 1) (bub i l) else l
def sortF (l : List Fl) : List Fl := srt l.length 1 l
def trimS (s : List UInt8) : List UInt8 := if s.getLast? = some 10 then s.dropLast else s
def readS (s : List UInt8) : Sum Nat Pk :=
  if 300 < s.length then .inl 0
  else match linesS (cutS (trimS s) [10]) 0 emptyPk with
    | .inl n => .inl n
    | .inr p => .inr { p with files := sortF p.files }
theorem swapAt_len {α : Type} (l : List α) (k : Nat) : (swapAt l k).length = l.length := by unfold swapAt; split <;> simp
theorem bub_len : ∀ (k : Nat) (l : List Fl), (bub k l).length = l.length
  | 0, l => rfl
  | k + 1, l => by
    unfold bub
    split
    · split
      · rw [bub_len k, swapAt_len]
      · rfl
    · rfl
def chText (c : Ch) : List UInt8 := if c.sign = [] then c.name else c.name ++ [32, 40] ++ c.sign ++ [32] ++ c.ver ++ [41]
def joinS (sep : List UInt8) : List (List UInt8) → List UInt8
  | [] => []
  | [x] => x
  | x :: y :: r => x ++ sep ++ joinS sep (y :: r)
def printedS (sep : List UInt8) (l : List Ch) : List UInt8 := joinS sep (l.map chText)
def needsText (l : List (List Ch)) : List UInt8 := if l = [] then [] else [10, 110, 101, 101, 100, 115, 32] ++ joinS [44, 32] (l.map (printedS [32, 124, 32]))
def barsText (l : List Ch) : List UInt8 := if l = [] then [] else [10, 98, 97, 114, 115, 32] ++ printedS [44, 32] l
def fileText (f : Fl) : List UInt8 := [10, 102, 105, 108, 101, 32] ++ f.path ++ [61] ++ f.content
def printS (p : Pk) : List UInt8 := [112, 97, 99, 107, 97, 103, 101, 32] ++ p.name ++ [32] ++ p.ver ++ needsText p.needs ++ barsText p.bars ++ p.files.flatMap fileText
end M
end Go.Proofs.YtgnfknjopafngaaGreatDoor
namespace Go.Proofs.YtgnfknjopafngaaGreatDoor
open Go.RowKit
theorem fl_cell2 {l : List M.Fl} {k : Nat} (hk : k < l.length) : (flsCells l)[2 * k + 1]? = some (strV l[k].content) := by
  induction l generalizing k with
  | nil => simp at hk
  | cons f l ih =>
    cases k with
    | zero => simp [flsCells, flCells]
    | succ k =>
      have := ih (k := k) (by simpa using hk)
      simp only [flsCells, List.flatMap_cons, flCells] at this ⊢
      rw [show 2 * (k + 1) + 1 = 2 * k + 1 + 1 + 1 by omega]
      simpa using this
theorem flsCells_cons (f : M.Fl) (l : List M.Fl) : flsCells (f :: l) = strV f.path :: strV f.content :: flsCells l := rfl
theorem swap_cells : ∀ (l : List M.Fl) (k : Nat) (h : k + 1 < l.length),
    (((((flsCells l).set ((k + 1) * 2) (strV l[k].path)).set ((k + 1) * 2 + 1) (strV l[k].content)).set (k * 2) (strV l[k + 1].path)).set (k * 2 + 1) (strV l[k + 1].content)) = flsCells (M.swapAt l k)
  | [], k, h => by simp at h
  | [x], k, h => by simp at h
  | x :: y :: l, 0, h => by
    simp [M.swapAt, flsCells_cons]
  | x :: y :: l, k + 1, h => by
    have ih := swap_cells (y :: l) k (by simpa using h)
    have e : M.swapAt (x :: y :: l) (k + 1) = x :: M.swapAt (y :: l) k := by
      unfold M.swapAt
      simp only [List.getElem?_cons_succ]
      rw [List.getElem?_eq_getElem (by simpa using Nat.lt_of_succ_lt h), List.getElem?_eq_getElem (by simpa using h)]
      rfl
    rw [e, flsCells_cons x (M.swapAt (y :: l) k), ← ih, flsCells_cons x (y :: l)]
    rw [show (k + 1 + 1) * 2 = (k + 1) * 2 + 1 + 1 by omega, show (k + 1) * 2 = k * 2 + 1 + 1 by omega]
    rfl
theorem PAt.swap {w wx : World} {pb B g n cap k : Nat} {p : M.Pk} {nv bv : Value} (h : PAt w pb B p nv bv (.slice (some ⟨g, 0, none⟩) n cap)) (hb : Below w.heap.size w wx) (hn : p.files.length = n) (hk : k + 1 < p.files.length)
    (a b c d : Value) (ha : a = strV p.files[k].path) (hb' : b = strV p.files[k].content) (hc : c = strV p.files[k + 1].path) (hd : d = strV p.files[k + 1].content) :
    PAt ((((wx.setCell ⟨g, (k + 1) * 2, none⟩ a).setCell ⟨g, (k + 1) * 2 + 1, none⟩ b).setCell ⟨g, k * 2, none⟩ c).setCell ⟨g, k * 2 + 1, none⟩ d) pb B { p with files := M.swapAt p.files k } nv bv (.slice (some ⟨g, 0, none⟩) n cap) := by
  subst ha hb' hc hd hn
  have h1 := h.below hb
  have hgB : B ≤ g := (h1.files.lt g rfl).1
  have hlt := h1.lt
  have ks : ∀ q o, q < B → CellS wx ((((wx.setCell ⟨g, (k + 1) * 2, none⟩ (strV p.files[k].path)).setCell ⟨g, (k + 1) * 2 + 1, none⟩ (strV p.files[k].content)).setCell ⟨g, k * 2, none⟩ (strV p.files[k + 1].path)).setCell ⟨g, k * 2 + 1, none⟩ (strV p.files[k + 1].content)) q o := fun q o hq => by
    exact ((setS (by omega)).trans ((setS (by omega)).trans ((setS (by omega)).trans (setS (by omega)))))
  have kk : ∀ q o, pb + 1 ≤ q → q < B → CellS wx ((((wx.setCell ⟨g, (k + 1) * 2, none⟩ (strV p.files[k].path)).setCell ⟨g, (k + 1) * 2 + 1, none⟩ (strV p.files[k].content)).setCell ⟨g, k * 2, none⟩ (strV p.files[k + 1].path)).setCell ⟨g, k * 2 + 1, none⟩ (strV p.files[k + 1].content)) q o := fun q o _ hq => ks q o hq
  have hown := h1.files
  refine ⟨(ks pb 0 hlt).1.trans h1.c0, (ks pb 1 hlt).1.trans h1.c1, (ks pb 2 hlt).1.trans h1.c2, (ks pb 3 hlt).1.trans h1.c3, (ks pb 4 hlt).1.trans h1.c4, fun o => ?_, hlt, ?_, h1.needs.keep kk, h1.bars.keep kk, ?_, h1.nnil, fun e => ?_⟩
  · rw [World.frozen?_setCell, World.frozen?_setCell, World.frozen?_setCell, World.frozen?_setCell]; exact h1.fz o
  · rw [size_set, size_set, size_set, size_set]; exact h1.le
  · show World.ownsRow _ _ _ _ _ (M.swapAt p.files k).length (flsCells (M.swapAt p.files k))
    rw [M.swapAt_len, ← swap_cells p.files k hk]
    exact ((((hown.stored _ _).1.stored _ _).1.stored _ _).1.stored _ _).1
  · have e' : M.swapAt p.files k = [] := e
    have e2 := congrArg List.length e'
    rw [M.swapAt_len, List.length_nil] at e2
    omega
end Go.Proofs.YtgnfknjopafngaaGreatDoor
namespace Go.Proofs.YtgnfknjopafngaaGreatDoor
open Go.RowKit
def PkVal (w : World) (p : M.Pk) (v : Value) : Prop :=
  ∃ nv bv fv, v = .agg #[.string ⟨p.name.toArray⟩, .string ⟨p.ver.toArray⟩, nv, bv, fv] ∧ NeedsIn w 0 w.heap.size nv p.needs ∧ RowIn w 0 w.heap.size bv p.bars.length (chsCells p.bars) ∧ RowIn w 0 w.heap.size fv p.files.length (flsCells p.files)
def PkFrom (lo : Nat) (w : World) (p : M.Pk) (v : Value) : Prop :=
  ∃ nv bv fv, v = .agg #[.string ⟨p.name.toArray⟩, .string ⟨p.ver.toArray⟩, nv, bv, fv] ∧ NeedsIn w lo w.heap.size nv p.needs ∧ RowIn w lo w.heap.size bv p.bars.length (chsCells p.bars) ∧ RowIn w lo w.heap.size fv p.files.length (flsCells p.files)
theorem PkFrom.val {lo : Nat} {w : World} {p : M.Pk} {v : Value} (h : PkFrom lo w p v) : PkVal w p v := by
  obtain ⟨nv, bv, fv, h1, h2, h3, h4⟩ := h
  exact ⟨nv, bv, fv, h1, h2.wide (Nat.zero_le _) (Nat.le_refl _), h3.wide (Nat.zero_le _) (Nat.le_refl _), h4.wide (Nat.zero_le _) (Nat.le_refl _)⟩
theorem preL_split {ps : List ByteArray} {k : Nat} (hk : k < ps.length) : ps.map (fun p => p.data.toList) = (ps.take k).map (fun p => p.data.toList) ++ ps[k].data.toList :: (ps.drop (k + 1)).map (fun p => p.data.toList) := by
  have e1 : ps = ps.take k ++ ps[k] :: ps.drop (k + 1) := by rw [← List.drop_eq_getElem_cons hk, List.take_append_drop]
  have e2 := congrArg (List.map (fun p : ByteArray => p.data.toList)) e1
  rw [List.map_append, List.map_cons] at e2
  exact e2
theorem new_at (w : World) (xs : List Value) (t : TypeId) (j : Nat) (u : Value) (hj : xs[j]? = some u) : (w.alloc (.cells xs.toArray t)).cell? ⟨w.heap.size, j, none⟩ = some u := by
  have := new_cells w xs t j u hj
  have e2 : ((⟨w.heap.size, 0, none⟩ : Addr).add j) = ⟨w.heap.size, j, none⟩ := by unfold Addr.add; by_cases h : j = 0 <;> simp [h]
  rwa [e2] at this
theorem PkAt.new (w : World) : PkAt (w.alloc (.cells #[.string ⟨#[]⟩, .string ⟨#[]⟩, .slice none 0 0, .slice none 0 0, .slice none 0 0] 30)) w.heap.size M.emptyPk := by
  refine ⟨w.heap.size + 1, .slice none 0 0, .slice none 0 0, .slice none 0 0, ?_⟩
  have hc := new_at w [.string ⟨#[]⟩, .string ⟨#[]⟩, .slice none 0 0, .slice none 0 0, .slice none 0 0] 30
  exact ⟨hc 0 _ rfl, hc 1 _ rfl, hc 2 _ rfl, hc 3 _ rfl, hc 4 _ rfl, fun o => by unfold World.frozen?; rw [(MapKept.heap_alloc w _).1]; simp, by omega, by simp, NeedsIn.nil _ _ _, .inl ⟨rfl, rfl, rfl⟩, World.ownsRow_nil _ _ _ _, fun _ => rfl, fun _ => rfl⟩
end Go.Proofs.YtgnfknjopafngaaGreatDoor
namespace Go.Proofs.YtgnfknjopafngaaGreatDoor
open Go.RowKit
theorem cat_toList (a b : ByteArray) : (a ++ b).data.toList = a.data.toList ++ b.data.toList := by rw [ByteArray.data_append]; simp
theorem ch_cell : ∀ {l : List M.Ch} {k : Nat} (hk : k < l.length), (chsCells l)[k * 3]? = some (strV l[k].name) ∧ (chsCells l)[k * 3 + 1]? = some (strV l[k].sign) ∧ (chsCells l)[k * 3 + 2]? = some (strV l[k].ver)
  | [], k, hk => by simp at hk
  | c :: l, 0, hk => by simp [chsCells, chCells]
  | c :: l, k + 1, hk => by
    have ih := ch_cell (l := l) (k := k) (by simpa using hk)
    have e : chsCells (c :: l) = strV c.name :: strV c.sign :: strV c.ver :: chsCells l := rfl
    rw [e, show (k + 1) * 3 = k * 3 + 1 + 1 + 1 by omega]
    exact ih
def ShortC (l : List M.Ch) : Prop := l.length ≤ 1000 ∧ ∀ c ∈ l, c.name.length ≤ 8000 ∧ c.sign.length ≤ 8000 ∧ c.ver.length ≤ 8000
end Go.Proofs.YtgnfknjopafngaaGreatDoor
namespace Go.Proofs.YtgnfknjopafngaaGreatDoor
open Go.RowKit
structure ShortP (p : M.Pk) : Prop where
  name : p.name.length ≤ 8000
  ver : p.ver.length ≤ 8000
  needn : p.needs.length ≤ 1000
  needs : ∀ l ∈ p.needs, ShortC l
  bars : ShortC p.bars
  filen : p.files.length ≤ 1000
  files : ∀ f ∈ p.files, f.path.length ≤ 8000 ∧ f.content.length ≤ 8000
namespace M
def headS (p : Pk) : List UInt8 := [112, 97, 99, 107, 97, 103, 101, 32] ++ p.name ++ [32] ++ p.ver
end M
theorem NeedsIn.at {w : World} {hi : Nat} {a : Option Addr} {n c : Nat} {l : List (List M.Ch)} (h : NeedsIn w 0 hi (.slice a n c) l) (k : Nat) (hk : k < l.length) :
    ∃ g au cu, a = some ⟨g, 0, none⟩ ∧ g < hi ∧ w.cell? ⟨g, k, none⟩ = some (.slice au l[k].length cu) ∧ RowIn w 0 hi (.slice au l[k].length cu) l[k].length (chsCells l[k]) := by
  obtain ⟨vs, h1, h2, h3⟩ := h
  obtain ⟨u, hu, hr⟩ := h3 k _ (List.getElem?_eq_getElem hk)
  obtain ⟨au, cu, e⟩ := hr.form
  obtain ⟨_, h0, _⟩ | ⟨g, cap, e1, _, _, hg, hc⟩ := h1
  · omega
  · cases e1
    exact ⟨g, au, cu, rfl, hg.1, by rw [hc k u hu, e], by rw [← e]; exact hr⟩
theorem RowIn.cellAt {w : World} {hi : Nat} {a : Option Addr} {n c m : Nat} {xs : List Value} (h : RowIn w 0 hi (.slice a n c) m xs) (hm : 0 < m) :
    ∃ g, a = some ⟨g, 0, none⟩ ∧ g < hi ∧ n ≤ c ∧ ∀ j u, xs[j]? = some u → w.cell? ⟨g, j, none⟩ = some u := by
  obtain ⟨_, h0, _⟩ | ⟨g, cap, e1, e2, _, hg, hc⟩ := h
  · omega
  · cases e1
    exact ⟨g, rfl, hg.1, e2, hc⟩
end Go.Proofs.YtgnfknjopafngaaGreatDoor
namespace Go.Proofs.YtgnfknjopafngaaGreatDoor
open Go.RowKit
theorem step_append_eq {P : Program} {w : World} {ops : Array Oper} {o : Oper} {a : Act} {K : Act → World → Prop} {Q : Exit → Act → World → Prop} {E : Prop} (hgd : o.guard = none) (s x : Operand) (t : TypeId)
    (hop : o.op = Op.call { callee := Callee.builtin Builtin.append, args := #[s, x], argTypes := #[t, t] }) (v u v' : Value) (w' : World) (hs : a.eval s = v) (hx : a.eval x = u) (hrun : (Builtin.append_ #[t, t] o.type #[v, u]).run P w = .ok v' w')
    (hK : K (a.put o.dst v') w') : if Region.wanted o (yielded ops a.tmps) = true then Oper.wp P o a w K Q else E := by
  rw [if_pos (by simp [Region.wanted, hgd])]
  unfold Oper.wp
  simp [execOp, hop, resolve, invoke, builtin, hs, hx, hrun, Result.andThen]
  exact hK
end Go.Proofs.YtgnfknjopafngaaGreatDoor
namespace Go.Proofs.YtgnfknjopafngaaGreatDoor
namespace M
def lexC : List Int → List Int → Int
  | [], [] => 0
  | [], y :: ys => if cmpI 0 y = 0 then lexC [] ys else cmpI 0 y
  | x :: xs, [] => if cmpI x 0 = 0 then lexC xs [] else cmpI x 0
  | x :: xs, y :: ys => if cmpI x y = 0 then lexC xs ys else cmpI x y
theorem cmpI_self (x : Int) : cmpI x x = 0 := by unfold cmpI; simp
theorem cmpI_zero {x y : Int} : cmpI x y = 0 ↔ x = y := by unfold cmpI; split <;> (try split) <;> omega
theorem cmpI_neg (x y : Int) : cmpI x y = - cmpI y x := by unfold cmpI; split <;> split <;> (try split) <;> omega
theorem cmpI_congr {x y a b : Int} (h : x < y ↔ a < b) (k : y < x ↔ b < a) : cmpI x y = cmpI a b := by unfold cmpI; simp only [h, k]
theorem lexC_step (x y : List Int) : lexC x y = if cmpI (x.headD 0) (y.headD 0) = 0 then lexC x.tail y.tail else cmpI (x.headD 0) (y.headD 0) := by
  cases x with
  | nil => cases y with
    | nil => simp [lexC, cmpI_self]
    | cons b y => simp [lexC]
  | cons a x => cases y with
    | nil => simp [lexC]
    | cons b y => simp [lexC]
theorem lexC_neg : ∀ (x y : List Int), lexC x y = - lexC y x
  | [], [] => by simp [lexC]
  | [], y :: ys => by
    unfold lexC; have h := lexC_neg [] ys; have k := cmpI_neg 0 y
    by_cases e : cmpI 0 y = 0
    · rw [if_pos e, if_pos (by omega), h]
    · rw [if_neg e, if_neg (by omega), k]
  | x :: xs, [] => by
    unfold lexC; have h := lexC_neg xs []; have k := cmpI_neg x 0
    by_cases e : cmpI x 0 = 0
    · rw [if_pos e, if_pos (by omega), h]
    · rw [if_neg e, if_neg (by omega), k]
  | x :: xs, y :: ys => by
    unfold lexC; have h := lexC_neg xs ys; have k := cmpI_neg x y
    by_cases e : cmpI x y = 0
    · rw [if_pos e, if_pos (by omega), h]
    · rw [if_neg e, if_neg (by omega), k]
theorem getD_tail (x : List Int) (j : Nat) : x.tail.getD j 0 = x.getD (j + 1) 0 := by cases x <;> simp
theorem lexC_at : ∀ (k : Nat) (x y : List Int), (∀ j, j < k → x.getD j 0 = y.getD j 0) → lexC x y = lexC (x.drop k) (y.drop k)
  | 0, x, y, _ => by simp
  | k + 1, x, y, h => by
    rw [lexC_step]
    have h0 := h 0 (by omega)
    have e : cmpI (x.headD 0) (y.headD 0) = 0 := by
      rw [cmpI_zero]
      cases x <;> cases y <;> simp_all
    rw [if_pos e, lexC_at k x.tail y.tail (fun j hj => by rw [getD_tail, getD_tail]; exact h (j + 1) (by omega))]
    simp
theorem headD_drop (x : List Int) (k : Nat) : (x.drop k).headD 0 = x.getD k 0 := by
  induction k generalizing x with
  | zero => cases x <;> simp
  | succ k ih => cases x with
    | nil => simp
    | cons a x => rw [List.drop_succ_cons, ih x]; rfl
theorem lexC_diff {k : Nat} {x y : List Int} (h : ∀ j, j < k → x.getD j 0 = y.getD j 0) (hk : cmpI (x.getD k 0) (y.getD k 0) ≠ 0) :
    lexC x y = cmpI (x.getD k 0) (y.getD k 0) := by
  rw [lexC_at k x y h, lexC_step, headD_drop, headD_drop, if_neg hk]
theorem lexC_same {k : Nat} {x y : List Int} (h : ∀ j, j < k → x.getD j 0 = y.getD j 0) (hx : x.length ≤ k) (hy : y.length ≤ k) :
    lexC x y = 0 := by
  rw [lexC_at k x y h, List.drop_eq_nil_of_le hx, List.drop_eq_nil_of_le hy]; simp [lexC]
theorem lexC_words : ∀ (a b : List Int) (x y : List Int), (∀ v ∈ a, v ≠ 0) → (∀ v ∈ b, v ≠ 0) →
    lexC (a ++ 0 :: x) (b ++ 0 :: y) = if lexC a b = 0 then lexC x y else lexC a b
  | [], [], x, y, _, _ => by simp [lexC, cmpI_self]
  | [], b :: bs, x, y, _, hb => by
    have h : cmpI 0 b ≠ 0 := fun e => hb b (by simp) (cmpI_zero.mp e).symm
    simp [lexC, h]
  | a :: as1, [], x, y, ha, _ => by
    have h : cmpI a 0 ≠ 0 := fun e => ha a (by simp) (cmpI_zero.mp e)
    simp [lexC, h]
  | a :: as1, b :: bs, x, y, ha, hb => by
    have ih := lexC_words as1 bs x y (fun v hv => ha v (by simp [hv])) (fun v hv => hb v (by simp [hv]))
    by_cases e : cmpI a b = 0
    · simp [lexC, e, ih]
    · simp [lexC, e]
def num : List UInt8 → Nat
  | [] => 0
  | b :: l => (b.toNat - 48) * 10 ^ l.length + num l
def Digits (l : List UInt8) : Prop := ∀ b ∈ l, 48 ≤ b.toNat ∧ b.toNat ≤ 57
theorem num_lt : ∀ {l : List UInt8}, Digits l → num l < 10 ^ l.length
  | [], _ => by simp [num]
  | b :: l, h => by
    have ih := num_lt (l := l) (fun c hc => h c (by simp [hc]))
    have hb := h b (by simp)
    have := Nat.mul_le_mul_right (10 ^ l.length) (show b.toNat - 48 ≤ 9 by omega)
    simp only [num, List.length_cons, Nat.pow_succ]
    omega
theorem num_nought (l : List UInt8) : num (48 :: l) = num l := by simp [num]
theorem num_strip : ∀ (l : List UInt8), num (strip l) = num l
  | [] => rfl
  | b :: l => by
    unfold strip
    rw [List.dropWhile_cons]
    by_cases h : b = 48
    · subst h; have := num_strip l; unfold strip at this; simpa [num_nought] using this
    · simp [h]
theorem strip_head : ∀ (l : List UInt8), ∀ b r, strip l = b :: r → b ≠ 48
  | [], b, r, h => by simp [strip] at h
  | c :: l, b, r, h => by
    unfold strip at h
    rw [List.dropWhile_cons] at h
    by_cases e : c = 48
    · subst e; exact strip_head l b r (by simpa [strip] using h)
    · simp [e] at h; exact h.1 ▸ e
theorem strip_digits {l : List UInt8} (h : Digits l) : Digits (strip l) := fun b hb => h b ((List.dropWhile_sublist _).subset hb)
theorem num_ge {b : UInt8} {l : List UInt8} (hb : 49 ≤ b.toNat) : 10 ^ l.length ≤ num (b :: l) := by
  have := Nat.mul_le_mul_right (10 ^ l.length) (show 1 ≤ b.toNat - 48 by omega)
  simp only [num]; omega
theorem compareBytes_num : ∀ {a b : List UInt8}, Digits a → Digits b → a.length = b.length → Lib.compareBytes a b = cmpI (num a) (num b)
  | [], [], _, _, _ => by simp [Lib.compareBytes, num, cmpI]
  | [], _ :: _, _, _, h => by simp at h
  | _ :: _, [], _, _, h => by simp at h
  | x :: a, y :: b, ha, hb, hl => by
    have hl' : a.length = b.length := by simpa using hl
    have da : Digits a := fun c hc => ha c (by simp [hc])
    have db : Digits b := fun c hc => hb c (by simp [hc])
    have ih := compareBytes_num da db hl'
    have hx := ha x (by simp); have hy := hb y (by simp)
    have la := num_lt da; have lb := num_lt db
    unfold Lib.compareBytes
    simp only [num, hl'] at *
    generalize 10 ^ b.length = t at *
    by_cases h1 : x < y
    · have h1' : x.toNat < y.toNat := UInt8.lt_iff_toNat_lt.mp h1
      have := Nat.mul_le_mul_right t (show x.toNat - 48 + 1 ≤ y.toNat - 48 by omega)
      rw [Nat.add_mul] at this
      rw [if_pos h1]
      unfold cmpI
      rw [if_pos (by omega)]
    · rw [if_neg h1]
      have h1' : ¬ x.toNat < y.toNat := fun h => h1 (UInt8.lt_iff_toNat_lt.mpr h)
      by_cases h2 : y < x
      · have h2' : y.toNat < x.toNat := UInt8.lt_iff_toNat_lt.mp h2
        have := Nat.mul_le_mul_right t (show y.toNat - 48 + 1 ≤ x.toNat - 48 by omega)
        rw [Nat.add_mul] at this
        rw [if_pos h2]
        unfold cmpI
        rw [if_neg (by omega), if_pos (by omega)]
      · have h2' : ¬ y.toNat < x.toNat := fun h => h2 (UInt8.lt_iff_toNat_lt.mpr h)
        rw [if_neg h2, ih, show x.toNat = y.toNat by omega]
        exact cmpI_congr (by omega) (by omega)
def numC (a b : List UInt8) : Int :=
  if cmpI (strip a).length (strip b).length = 0 then Lib.compareBytes (strip a) (strip b) else cmpI (strip a).length (strip b).length
theorem num_long {a b : List UInt8} (da : Digits a) (db : Digits b) (hl : a.length < b.length) (hb : ∀ x r, b = x :: r → x ≠ 48) : num a < num b := by
  cases b with
  | nil => simp at hl
  | cons x r =>
    have hx := hb x r rfl
    have dx := db x (by simp)
    have : x.toNat ≠ 48 := fun e => hx (UInt8.toNat_inj.mp (by simpa using e))
    have h1 := num_lt da
    have h2 := num_ge (b := x) (l := r) (by omega)
    have h3 : 10 ^ a.length ≤ 10 ^ r.length := Nat.pow_le_pow_right (by omega) (by simp at hl; omega)
    omega
theorem numC_eq {a b : List UInt8} (da : Digits a) (db : Digits b) : numC a b = cmpI (num a) (num b) := by
  have sa := strip_digits da; have sb := strip_digits db
  rw [← num_strip a, ← num_strip b]
  unfold numC
  by_cases h : cmpI (strip a).length (strip b).length = 0
  · rw [if_pos h]
    exact compareBytes_num sa sb (by have := cmpI_zero.mp h; omega)
  · rw [if_neg h]
    have hn : (strip a).length ≠ (strip b).length := fun e => h (cmpI_zero.mpr (by omega))
    by_cases hl : (strip a).length < (strip b).length
    · have := num_long sa sb hl (fun x r e => strip_head b x r e)
      exact cmpI_congr (by omega) (by omega)
    · have := num_long sb sa (by omega) (fun x r e => strip_head a x r e)
      exact cmpI_congr (by omega) (by omega)
def ranks (l : List UInt8) : List Int := l.map (fun b => rk b.toNat)
def rkAt (l : List UInt8) (k : Nat) : Int := (ranks l).getD k 0
theorem rk_ne (b : UInt8) : rk b.toNat ≠ 0 := by
  unfold rk isLt; have := b.toNat_lt; split
  · omega
  · split
    · rename_i h; simp at h; omega
    · omega
theorem ranks_ne (l : List UInt8) : ∀ v ∈ ranks l, v ≠ 0 := by
  intro v hv; unfold ranks at hv; rw [List.mem_map] at hv; obtain ⟨b, _, rfl⟩ := hv; exact rk_ne b
theorem lead_two {l : List UInt8} (h : l ≠ []) : 0 < lead isNo l ∨ 0 < lead isD (l.drop (lead isNo l)) := by
  cases l with
  | nil => exact absurd rfl h
  | cons b l =>
    rw [lead_cons]
    by_cases hb : isNo b.toNat = true
    · left; rw [if_pos hb]; omega
    · right; rw [if_neg hb, List.drop_zero, lead_cons, if_pos (by unfold isNo at hb; simpa using hb)]; omega
def keyF : Nat → List UInt8 → List Int
  | 0, _ => []
  | n + 1, l => if l = [] then [] else
    ranks (l.take (lead isNo l)) ++ 0 :: (num ((l.drop (lead isNo l)).take (lead isD (l.drop (lead isNo l)))) : Int) ::
      keyF n ((l.drop (lead isNo l)).drop (lead isD (l.drop (lead isNo l))))
def key (l : List UInt8) : List Int := keyF l.length l
theorem rest_lt {l : List UInt8} (h : l ≠ []) : ((l.drop (lead isNo l)).drop (lead isD (l.drop (lead isNo l)))).length < l.length := by
  have h1 := lead_two h
  have h2 := lead_le isNo l
  have h3 := lead_le isD (l.drop (lead isNo l))
  have : l.length ≠ 0 := fun e => h (List.length_eq_zero_iff.mp e)
  simp only [List.length_drop] at *
  omega
theorem keyF_any : ∀ (n m : Nat) (l : List UInt8), l.length ≤ n → l.length ≤ m → keyF n l = keyF m l
  | 0, m, l, hn, _ => by
    have : l = [] := List.length_eq_zero_iff.mp (by omega)
    subst this
    cases m <;> simp [keyF]
  | n + 1, 0, l, _, hm => by
    have : l = [] := List.length_eq_zero_iff.mp (by omega)
    subst this
    simp [keyF]
  | n + 1, m + 1, l, hn, hm => by
    by_cases h : l = []
    · simp [keyF, h]
    · have hr := rest_lt h
      simp only [keyF, if_neg h]
      rw [keyF_any n m _ (by omega) (by omega)]
theorem lexC_pad1 (y : List Int) : ∀ x, lexC (x ++ [0]) y = lexC x y
  | [] => by cases y with
    | nil => simp [lexC, cmpI_self]
    | cons b y => simp [lexC]
  | a :: x => by
    rw [lexC_step, lexC_step (a :: x)]
    simp only [List.cons_append, List.headD_cons, List.tail_cons]
    rw [lexC_pad1 y.tail x]
    rfl
def row (l : List UInt8) : List Int :=
  ranks (l.take (lead isNo l)) ++ 0 :: (num ((l.drop (lead isNo l)).take (lead isD (l.drop (lead isNo l)))) : Int) ::
      key ((l.drop (lead isNo l)).drop (lead isD (l.drop (lead isNo l))))
theorem key_row {l : List UInt8} (h : l ≠ []) : key l = row l := by
  have hr := rest_lt h
  have hl : l.length ≠ 0 := fun e => h (List.length_eq_zero_iff.mp e)
  have e : key l = keyF (l.length - 1 + 1) l := by unfold key; exact keyF_any _ _ _ (by omega) (by omega)
  rw [e]
  simp only [keyF, if_neg h]
  unfold row key
  rw [keyF_any (l.length - 1) _ _ (by omega) (Nat.le_refl _)]
theorem row_nil : row [] = [0, 0] := by
  unfold row; simp [lead_nil, ranks, num, key, keyF]
theorem key_nil : key [] = [] := rfl
theorem lexC_row1 (l : List UInt8) (y : List Int) : lexC (key l) y = lexC (row l) y := by
  by_cases h : l = []
  · subst h
    rw [row_nil, key_nil, show ([0, 0] : List Int) = ([] ++ [0]) ++ [0] from rfl, lexC_pad1, lexC_pad1]
  · rw [key_row h]
theorem lexC_row2 (x : List Int) (l : List UInt8) : lexC x (key l) = lexC x (row l) := by
  rw [lexC_neg, lexC_row1, ← lexC_neg]
def verC (a b : List UInt8) : Int := lexC (key a) (key b)
def wordC (a b : List UInt8) : Int := lexC (ranks a) (ranks b)
theorem wordC_diff {a b : List UInt8} {k : Nat} (h : ∀ j, j < k → rkAt a j = rkAt b j) (hk : ¬ cmpI (rkAt a k) (rkAt b k) = 0) : wordC a b = cmpI (rkAt a k) (rkAt b k) :=
  lexC_diff h hk
theorem wordC_same {a b : List UInt8} {k : Nat} (h : ∀ j, j < k → rkAt a j = rkAt b j) (ha : a.length ≤ k) (hb : b.length ≤ k) : wordC a b = 0 :=
  lexC_same h (by simpa [ranks] using ha) (by simpa [ranks] using hb)
theorem strip_nought {l : List UInt8} (h : 0 < l.length) (h0 : l[0].toNat = 48) : strip (l.drop 1) = strip l := by
  cases l with
  | nil => simp at h
  | cons b l =>
    have e : b = 48 := UInt8.toNat_inj.mp (by simpa using h0)
    subst e; simp [strip]
theorem strip_stop {l : List UInt8} (h : 0 < l.length) (h0 : ¬ l[0].toNat = 48) : strip l = l := by
  cases l with
  | nil => simp at h
  | cons b l =>
    have e : b ≠ 48 := fun e => h0 (by simp [e])
    simp [strip, e]
theorem strip_nil {l : List UInt8} (h : ¬ 0 < l.length) : strip l = l := by
  cases l with
  | nil => rfl
  | cons b l => simp at h
theorem lead_digits : ∀ (l : List UInt8), Digits (l.take (lead isD l))
  | [] => by intro b hb; simp at hb
  | c :: l => by
    rw [lead_cons]
    by_cases h : isD c.toNat = true
    · rw [if_pos h, List.take_succ_cons]
      intro b hb
      rcases List.mem_cons.mp hb with rfl | hb
      · unfold isD at h; simp at h; omega
      · exact lead_digits l b hb
    · rw [if_neg h]; intro b hb; simp at hb
theorem verC_round (a b : List UInt8) (i j : Nat) (hi : i = lead isNo a) (hj : j = lead isNo b) :
    verC a b = if wordC (a.take i) (b.take j) = 0 then
        (if numC ((a.drop i).take (lead isD (a.drop i))) ((b.drop j).take (lead isD (b.drop j))) = 0 then
          verC ((a.drop i).drop (lead isD (a.drop i))) ((b.drop j).drop (lead isD (b.drop j)))
         else numC ((a.drop i).take (lead isD (a.drop i))) ((b.drop j).take (lead isD (b.drop j))))
      else wordC (a.take i) (b.take j) := by
  subst hi hj
  rw [numC_eq (lead_digits _) (lead_digits _)]
  unfold verC wordC
  rw [lexC_row1, lexC_row2]
  unfold row
  rw [lexC_words _ _ _ _ (ranks_ne _) (ranks_ne _)]
  simp only [lexC]
end M
end Go.Proofs.YtgnfknjopafngaaGreatDoor
