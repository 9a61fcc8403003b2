import Derived.Test.YtgnfknjopafngaaGreatDoorKfa
import Derived.Deep.RegionLaw
import GoSem.Op.String
namespace Go.Proofs.YtgnfknjopafngaaGreatDoor
open Go.RowKit
def StrBlk (w : World) (g : Nat) : Prop := ∃ c f, w.heap[g]? = some (.cells c 9 f)
def CellS (w w' : World) (g o : Nat) : Prop := w'.cell? ⟨g, o, none⟩ = w.cell? ⟨g, o, none⟩ ∧ (StrBlk w' g → StrBlk w g)
theorem CellS.trans {w w1 w2 : World} {g o : Nat} (h : CellS w1 w2 g o) (k : CellS w w1 g o) : CellS w w2 g o := ⟨h.1.trans k.1, fun e => k.2 (h.2 e)⟩
theorem blockS {w w' : World} {g o : Nat} (h : w'.heap[g]? = w.heap[g]?) : CellS w w' g o := ⟨World.cell?_of_block (a := ⟨g, o, none⟩) h, fun ⟨c, f, e⟩ => ⟨c, f, h.symm.trans e⟩⟩
theorem belowS {B : Nat} {w w' : World} {g o : Nat} (h : Below B w w') (hg : g < B) : CellS w w' g o := blockS (h.block g hg)
theorem setS {w : World} {b o : Nat} {v : Value} {g o' : Nat} (h : g ≠ b) : CellS w (w.setCell ⟨b, o, none⟩ v) g o' := blockS (Below.heap_setCell _ _ _ _ h)
def RowIn (w : World) (lo hi : Nat) (v : Value) (n : Nat) (xs : List Value) : Prop :=
  (v = .slice none 0 0 ∧ n = 0 ∧ xs = []) ∨ ∃ g cap, v = .slice (some ⟨g, 0, none⟩) n cap ∧ n ≤ cap ∧ lo ≤ g ∧ (g < hi ∧ (StrBlk w g → xs.length = n)) ∧ ∀ j u, xs[j]? = some u → w.cell? ⟨g, j, none⟩ = some u
theorem RowIn.form {w : World} {lo hi n : Nat} {v : Value} {xs : List Value} (h : RowIn w lo hi v n xs) : ∃ a cap, v = .slice a n cap := by
  obtain ⟨rfl, rfl, rfl⟩ | ⟨g, cap, rfl, _⟩ := h
  · exact ⟨_, _, rfl⟩
  · exact ⟨_, _, rfl⟩
theorem RowIn.keep {w w' : World} {lo hi n : Nat} {v : Value} {xs : List Value} (h : RowIn w lo hi v n xs) (hk : ∀ g o, lo ≤ g → g < hi → CellS w w' g o) : RowIn w' lo hi v n xs := by
  obtain h | ⟨g, cap, h1, h2, h3, h4, h5⟩ := h
  · exact .inl h
  · exact .inr ⟨g, cap, h1, h2, h3, ⟨h4.1, fun e => h4.2 ((hk g 0 h3 h4.1).2 e)⟩, fun j u hj => (hk g j h3 h4.1).1.trans (h5 j u hj)⟩
theorem RowIn.wide {w : World} {lo hi lo' hi' n : Nat} {v : Value} {xs : List Value} (h : RowIn w lo hi v n xs) (h1 : lo' ≤ lo) (h2 : hi ≤ hi') : RowIn w lo' hi' v n xs := by
  obtain h | ⟨g, cap, a, b, c, d, e⟩ := h
  · exact .inl h
  · exact .inr ⟨g, cap, a, b, by omega, ⟨by omega, d.2⟩, e⟩
theorem RowIn.own {w : World} {B e size n : Nat} {v : Value} {xs : List Value} (h : w.ownsRow B e size v n xs) (ht : e = 9 → size = 1 := by decide) : RowIn w B w.heap.size v n xs := by
  have hlt := h.lt
  have hce := fun g hg => h.cells (g := g) hg
  obtain ⟨hl, ⟨rfl, rfl⟩ | ⟨g, cap, cur, rfl, h2, h3, h4, _⟩⟩ := h
  · exact .inl ⟨rfl, rfl, List.length_eq_zero_iff.mp (by omega)⟩
  · refine .inr ⟨g, cap, rfl, h4, h2, ⟨(hlt g rfl).2, fun ⟨c, f, he⟩ => ?_⟩, fun j u hj => ?_⟩
    · rw [h3] at he
      injection he with he
      injection he with _ he
      rw [hl, ht he, Nat.mul_one]
    have := hce g rfl j u hj
    have e2 : ((⟨g, 0, none⟩ : Addr).add j) = ⟨g, j, none⟩ := by unfold Addr.add; by_cases h : j = 0 <;> simp [h]
    rwa [e2] at this
def NeedsIn (w : World) (lo hi : Nat) (v : Value) (l : List (List M.Ch)) : Prop :=
  ∃ vs : List Value, RowIn w lo hi v l.length vs ∧ vs.length = l.length ∧ ∀ (i : Nat) x, l[i]? = some x → ∃ u, vs[i]? = some u ∧ RowIn w lo hi u x.length (chsCells x)
theorem NeedsIn.keep {w w' : World} {lo hi : Nat} {v : Value} {l : List (List M.Ch)} (h : NeedsIn w lo hi v l) (hk : ∀ g o, lo ≤ g → g < hi → CellS w w' g o) : NeedsIn w' lo hi v l := by
  obtain ⟨vs, h1, h2, h3⟩ := h
  exact ⟨vs, h1.keep hk, h2, fun i x hx => by obtain ⟨u, a, b⟩ := h3 i x hx; exact ⟨u, a, b.keep hk⟩⟩
theorem NeedsIn.nil (w : World) (lo hi : Nat) : NeedsIn w lo hi (.slice none 0 0) [] := ⟨[], .inl ⟨rfl, rfl, rfl⟩, rfl, fun i x h => by simp at h⟩
theorem NeedsIn.form {w : World} {lo hi : Nat} {v : Value} {l : List (List M.Ch)} (h : NeedsIn w lo hi v l) : ∃ a cap, v = .slice a l.length cap := by
  obtain ⟨vs, h1, _⟩ := h; exact h1.form
theorem NeedsIn.wide {w : World} {lo hi lo' hi' : Nat} {v : Value} {l : List (List M.Ch)} (h : NeedsIn w lo hi v l) (h1 : lo' ≤ lo) (h2 : hi ≤ hi') : NeedsIn w lo' hi' v l := by
  obtain ⟨vs, a, b, c⟩ := h
  exact ⟨vs, a.wide h1 h2, b, fun i x hx => by obtain ⟨u, d, e⟩ := c i x hx; exact ⟨u, d, e.wide h1 h2⟩⟩
def flCells (f : M.Fl) : List Value := [strV f.path, strV f.content]
def flsCells (l : List M.Fl) : List Value := l.flatMap flCells
theorem flsCells_snoc (l : List M.Fl) (f : M.Fl) : flsCells (l ++ [f]) = flsCells l ++ [strV f.path, strV f.content] := by simp [flsCells, flCells]
theorem flsCells_len (l : List M.Fl) : (flsCells l).length = l.length * 2 := by
  induction l with
  | nil => rfl
  | cons c l ih => simp only [flsCells, List.flatMap_cons, List.length_append] at ih ⊢; rw [ih]; simp [flCells]; omega
end Go.Proofs.YtgnfknjopafngaaGreatDoor
namespace Go.Proofs.YtgnfknjopafngaaGreatDoor
open Go.RowKit
theorem size_set (w : World) (a : Addr) (v : Value) : (w.setCell a v).heap.size = w.heap.size := by simp [World.setCell]
theorem cell_set_block (w : World) (b o : Nat) (v : Value) (g o' : Nat) (h : g ≠ b) : (w.setCell ⟨b, o, none⟩ v).cell? ⟨g, o', none⟩ = w.cell? ⟨g, o', none⟩ :=
  World.cell?_setCell_other _ _ _ _ (by intro e; cases e; exact h rfl)
theorem cell_set_off (w : World) (b o : Nat) (v : Value) (o' : Nat) (h : o' ≠ o) : (w.setCell ⟨b, o, none⟩ v).cell? ⟨b, o', none⟩ = w.cell? ⟨b, o', none⟩ :=
  World.cell?_setCell_other _ _ _ _ (by intro e; cases e; exact h rfl)
end Go.Proofs.YtgnfknjopafngaaGreatDoor
namespace Go.Proofs.YtgnfknjopafngaaGreatDoor
open Go.RowKit
def needsT : ByteArray := ⟨#[110, 101, 101, 100, 115, 32]⟩
def barsT : ByteArray := ⟨#[98, 97, 114, 115, 32]⟩
def fileT : ByteArray := ⟨#[102, 105, 108, 101, 32]⟩
end Go.Proofs.YtgnfknjopafngaaGreatDoor
namespace Go.Proofs.YtgnfknjopafngaaGreatDoor
open Go.RowKit
theorem fl_cell {l : List M.Fl} {k : Nat} (hk : k < l.length) : (flsCells l)[2 * k]? = some (strV l[k].path) := by
  induction l generalizing k with
  | nil => simp at hk
  | cons f l ih =>
    cases k with
    | zero => simp [flsCells, flCells]
    | succ k =>
      have := ih (k := k) (by simpa using hk)
      simp only [flsCells, List.flatMap_cons, flCells] at this ⊢
      rw [show 2 * (k + 1) = 2 * k + 1 + 1 by omega]
      simpa using this
theorem grown_keep {wx w2 : World} {row : Option Nat} (hg : wx.grownBy w2 row) (b : Nat) (hb : b < wx.heap.size) (hne : some b ≠ row) :
    ∀ o, w2.cell? ⟨b, o, none⟩ = wx.cell? ⟨b, o, none⟩ ∧ w2.frozen? ⟨b, o, none⟩ = wx.frozen? ⟨b, o, none⟩ := fun o =>
  ⟨World.cell?_of_block (w := wx) (a := ⟨b, o, none⟩) (hg.block b hb hne), World.frozen?_of_block (w := wx) (a := ⟨b, o, none⟩) (hg.block b hb hne)⟩
end Go.Proofs.YtgnfknjopafngaaGreatDoor
namespace Go.Proofs.YtgnfknjopafngaaGreatDoor
open Go.RowKit
theorem own_apart {w : World} {B B' e e' size size' n n' : Nat} {v u : Value} {xs ys : List Value} (h : w.ownsRow B e size v n xs) (k : w.ownsRow B' e' size' u n' ys) (he : e ≠ e') : u.ownBlock = none ∨ u.ownBlock ≠ v.ownBlock := by
  obtain ⟨_, ⟨rfl, _⟩ | ⟨g, cap, cur, rfl, _, hg, _⟩⟩ := k
  · exact .inl rfl
  · right
    obtain ⟨_, ⟨rfl, _⟩ | ⟨g', cap', cur', rfl, _, hg', _⟩⟩ := h
    · simp [Value.ownBlock]
    · intro e1
      have e2 : g = g' := by simpa [Value.ownBlock] using e1
      subst e2
      rw [hg] at hg'
      simp at hg'
      exact he hg'.2.symm
end Go.Proofs.YtgnfknjopafngaaGreatDoor
namespace Go.Proofs.YtgnfknjopafngaaGreatDoor
open Go.RowKit
theorem choicesS_len {s sep : List UInt8} {m : Nat} {l : List M.Ch} (h : M.choicesS s sep m = some l) : l.length ≤ m := by
  unfold M.choicesS at h
  split at h
  · cases h
  · split at h
    · cases h; assumption
    · cases h
end Go.Proofs.YtgnfknjopafngaaGreatDoor
namespace Go.Proofs.YtgnfknjopafngaaGreatDoor
namespace M
def linesS : List (List UInt8) → Nat → Pk → Sum Nat Pk
  | [], _, p => .inr p
  | l :: r, k, p => match lineS p k l with
    | none => .inl (k + 1)
    | some q => linesS r (k + 1) q
def emptyPk : Pk := ⟨[], [], [], [], []⟩
def swapAt {α : Type} (l : List α) (k : Nat) : List α := match l[k]?, l[k + 1]? with
  | some x, some y => (l.set (k + 1) x).set k y
  | _, _ => l
def bub : Nat → List Fl → List Fl
  | 0, l => l
  | k + 1, l => match l[k]?, l[k + 1]? with
    | some x, some y => if Op.bytesLess y.path x.path = true then bub k (swapAt l k) else l
    | _, _ => l
def srt : Nat → Nat → List Fl → List Fl
  | 0, _, l => l
  | m + 1, i, l => if i < l.length then srt m (i + 1) (bub i l) else l
def sortF (l : List Fl) : List Fl := srt l.length 1 l
def trimS (s : List UInt8) : List UInt8 := if s.getLast? = some 10 then s.dropLast else s
def readS (s : List UInt8) : Sum Nat Pk :=
  if 300 < s.length then .inl 0
  else match linesS (cutS (trimS s) [10]) 0 emptyPk with
    | .inl n => .inl n
    | .inr p => .inr { p with files := sortF p.files }
theorem swapAt_len {α : Type} (l : List α) (k : Nat) : (swapAt l k).length = l.length := by unfold swapAt; split <;> simp
theorem bub_len : ∀ (k : Nat) (l : List Fl), (bub k l).length = l.length
  | 0, l => rfl
  | k + 1, l => by
    unfold bub
    split
    · split
      · rw [bub_len k, swapAt_len]
      · rfl
    · rfl
def chText (c : Ch) : List UInt8 := if c.sign = [] then c.name else c.name ++ [32, 40] ++ c.sign ++ [32] ++ c.ver ++ [41]
def joinS (sep : List UInt8) : List (List UInt8) → List UInt8
  | [] => []
  | [x] => x
  | x :: y :: r => x ++ sep ++ joinS sep (y :: r)
def printedS (sep : List UInt8) (l : List Ch) : List UInt8 := joinS sep (l.map chText)
def needsText (l : List (List Ch)) : List UInt8 := if l = [] then [] else [10, 110, 101, 101, 100, 115, 32] ++ joinS [44, 32] (l.map (printedS [32, 124, 32]))
def barsText (l : List Ch) : List UInt8 := if l = [] then [] else [10, 98, 97, 114, 115, 32] ++ printedS [44, 32] l
def fileText (f : Fl) : List UInt8 := [10, 102, 105, 108, 101, 32] ++ f.path ++ [61] ++ f.content
def printS (p : Pk) : List UInt8 := [112, 97, 99, 107, 97, 103, 101, 32] ++ p.name ++ [32] ++ p.ver ++ needsText p.needs ++ barsText p.bars ++ p.files.flatMap fileText
end M
end Go.Proofs.YtgnfknjopafngaaGreatDoor
namespace Go.Proofs.YtgnfknjopafngaaGreatDoor
open Go.RowKit
theorem fl_cell2 {l : List M.Fl} {k : Nat} (hk : k < l.length) : (flsCells l)[2 * k + 1]? = some (strV l[k].content) := by
  induction l generalizing k with
  | nil => simp at hk
  | cons f l ih =>
    cases k with
    | zero => simp [flsCells, flCells]
    | succ k =>
      have := ih (k := k) (by simpa using hk)
      simp only [flsCells, List.flatMap_cons, flCells] at this ⊢
      rw [show 2 * (k + 1) + 1 = 2 * k + 1 + 1 + 1 by omega]
      simpa using this
end Go.Proofs.YtgnfknjopafngaaGreatDoor
namespace Go.Proofs.YtgnfknjopafngaaGreatDoor
open Go.RowKit
def PkVal (w : World) (p : M.Pk) (v : Value) : Prop :=
  ∃ nv bv fv, v = .agg #[.string ⟨p.name.toArray⟩, .string ⟨p.ver.toArray⟩, nv, bv, fv] ∧ NeedsIn w 0 w.heap.size nv p.needs ∧ RowIn w 0 w.heap.size bv p.bars.length (chsCells p.bars) ∧ RowIn w 0 w.heap.size fv p.files.length (flsCells p.files)
def PkFrom (lo : Nat) (w : World) (p : M.Pk) (v : Value) : Prop :=
  ∃ nv bv fv, v = .agg #[.string ⟨p.name.toArray⟩, .string ⟨p.ver.toArray⟩, nv, bv, fv] ∧ NeedsIn w lo w.heap.size nv p.needs ∧ RowIn w lo w.heap.size bv p.bars.length (chsCells p.bars) ∧ RowIn w lo w.heap.size fv p.files.length (flsCells p.files)
theorem PkFrom.val {lo : Nat} {w : World} {p : M.Pk} {v : Value} (h : PkFrom lo w p v) : PkVal w p v := by
  obtain ⟨nv, bv, fv, h1, h2, h3, h4⟩ := h
  exact ⟨nv, bv, fv, h1, h2.wide (Nat.zero_le _) (Nat.le_refl _), h3.wide (Nat.zero_le _) (Nat.le_refl _), h4.wide (Nat.zero_le _) (Nat.le_refl _)⟩
def readB (s : ByteArray) : Sum Nat M.Pk := M.readS s.data.toList
theorem preL_split {ps : List ByteArray} {k : Nat} (hk : k < ps.length) : ps.map (fun p => p.data.toList) = (ps.take k).map (fun p => p.data.toList) ++ ps[k].data.toList :: (ps.drop (k + 1)).map (fun p => p.data.toList) := by
  have e1 : ps = ps.take k ++ ps[k] :: ps.drop (k + 1) := by rw [← List.drop_eq_getElem_cons hk, List.take_append_drop]
  have e2 := congrArg (List.map (fun p : ByteArray => p.data.toList)) e1
  rw [List.map_append, List.map_cons] at e2
  exact e2
theorem new_at (w : World) (xs : List Value) (t : TypeId) (j : Nat) (u : Value) (hj : xs[j]? = some u) : (w.alloc (.cells xs.toArray t)).cell? ⟨w.heap.size, j, none⟩ = some u := by
  have := new_cells w xs t j u hj
  have e2 : ((⟨w.heap.size, 0, none⟩ : Addr).add j) = ⟨w.heap.size, j, none⟩ := by unfold Addr.add; by_cases h : j = 0 <;> simp [h]
  rwa [e2] at this
end Go.Proofs.YtgnfknjopafngaaGreatDoor
namespace Go.Proofs.YtgnfknjopafngaaGreatDoor
open Go.RowKit
theorem cat_toList (a b : ByteArray) : (a ++ b).data.toList = a.data.toList ++ b.data.toList := by rw [ByteArray.data_append]; simp
theorem ch_cell : ∀ {l : List M.Ch} {k : Nat} (hk : k < l.length), (chsCells l)[k * 3]? = some (strV l[k].name) ∧ (chsCells l)[k * 3 + 1]? = some (strV l[k].sign) ∧ (chsCells l)[k * 3 + 2]? = some (strV l[k].ver)
  | [], k, hk => by simp at hk
  | c :: l, 0, hk => by simp [chsCells, chCells]
  | c :: l, k + 1, hk => by
    have ih := ch_cell (l := l) (k := k) (by simpa using hk)
    have e : chsCells (c :: l) = strV c.name :: strV c.sign :: strV c.ver :: chsCells l := rfl
    rw [e, show (k + 1) * 3 = k * 3 + 1 + 1 + 1 by omega]
    exact ih
def ShortC (l : List M.Ch) : Prop := l.length ≤ 1000 ∧ ∀ c ∈ l, c.name.length ≤ 8000 ∧ c.sign.length ≤ 8000 ∧ c.ver.length ≤ 8000
end Go.Proofs.YtgnfknjopafngaaGreatDoor
namespace Go.Proofs.YtgnfknjopafngaaGreatDoor
open Go.RowKit
structure ShortP (p : M.Pk) : Prop where
  name : p.name.length ≤ 8000
  ver : p.ver.length ≤ 8000
  needn : p.needs.length ≤ 1000
  needs : ∀ l ∈ p.needs, ShortC l
  bars : ShortC p.bars
  filen : p.files.length ≤ 1000
  files : ∀ f ∈ p.files, f.path.length ≤ 8000 ∧ f.content.length ≤ 8000
namespace M
def headS (p : Pk) : List UInt8 := [112, 97, 99, 107, 97, 103, 101, 32] ++ p.name ++ [32] ++ p.ver
end M
theorem NeedsIn.at {w : World} {hi : Nat} {a : Option Addr} {n c : Nat} {l : List (List M.Ch)} (h : NeedsIn w 0 hi (.slice a n c) l) (k : Nat) (hk : k < l.length) :
    ∃ g au cu, a = some ⟨g, 0, none⟩ ∧ g < hi ∧ w.cell? ⟨g, k, none⟩ = some (.slice au l[k].length cu) ∧ RowIn w 0 hi (.slice au l[k].length cu) l[k].length (chsCells l[k]) := by
  obtain ⟨vs, h1, h2, h3⟩ := h
  obtain ⟨u, hu, hr⟩ := h3 k _ (List.getElem?_eq_getElem hk)
  obtain ⟨au, cu, e⟩ := hr.form
  obtain ⟨_, h0, _⟩ | ⟨g, cap, e1, _, _, hg, hc⟩ := h1
  · omega
  · cases e1
    exact ⟨g, au, cu, rfl, hg.1, by rw [hc k u hu, e], by rw [← e]; exact hr⟩
theorem RowIn.cellAt {w : World} {hi : Nat} {a : Option Addr} {n c m : Nat} {xs : List Value} (h : RowIn w 0 hi (.slice a n c) m xs) (hm : 0 < m) :
    ∃ g, a = some ⟨g, 0, none⟩ ∧ g < hi ∧ n ≤ c ∧ ∀ j u, xs[j]? = some u → w.cell? ⟨g, j, none⟩ = some u := by
  obtain ⟨_, h0, _⟩ | ⟨g, cap, e1, e2, _, hg, hc⟩ := h
  · omega
  · cases e1
    exact ⟨g, rfl, hg.1, e2, hc⟩
end Go.Proofs.YtgnfknjopafngaaGreatDoor
namespace Go.Proofs.YtgnfknjopafngaaGreatDoor
theorem choiceS_short {s : List UInt8} {c : M.Ch} (h : M.choiceS s = some c) (hs : s.length ≤ 8000) : c.name.length ≤ 8000 ∧ c.sign.length ≤ 8000 ∧ c.ver.length ≤ 8000 := by
  have hm := M.cutS_mem s [32]
  unfold M.choiceS at h
  split at h
  · split at h
    · cases h; exact ⟨hs, Nat.zero_le _, Nat.zero_le _⟩
    · cases h
  · rename_i p0 p1 p2 e
    rw [e] at hm
    have h0 := hm p0 (by simp)
    have h1 := hm p1 (by simp)
    have h2 := hm p2 (by simp)
    split at h
    · cases h
      refine ⟨Nat.le_trans h0 hs, ?_, ?_⟩
      · simp only [List.length_drop]; omega
      · simp only [List.length_take]; omega
    · cases h
  · cases h
theorem allS_mem {α : Type} {f : List UInt8 → Option α} : ∀ {l : List (List UInt8)} {r : List α}, M.allS f l = some r → r.length = l.length ∧ ∀ y ∈ r, ∃ x ∈ l, f x = some y
  | [], r, h => by simp only [M.allS, Option.some.injEq] at h; subst h; simp
  | s :: l, r, h => by
    simp only [M.allS] at h
    split at h
    · cases h
    · rename_i c hc
      split at h
      · cases h
      · rename_i r' hr
        cases h
        obtain ⟨h1, h2⟩ := allS_mem hr
        refine ⟨by simp [h1], fun y hy => ?_⟩
        rcases List.mem_cons.mp hy with rfl | hy
        · exact ⟨s, by simp, hc⟩
        · obtain ⟨x, hx, e⟩ := h2 y hy
          exact ⟨x, by simp [hx], e⟩
theorem choicesS_short {s sep : List UInt8} {m : Nat} {l : List M.Ch} (h : M.choicesS s sep m = some l) (hm : m ≤ 1000) (hs : s.length ≤ 8000) : ShortC l := by
  refine ⟨Nat.le_trans (choicesS_len h) hm, ?_⟩
  unfold M.choicesS at h
  split at h
  · cases h
  · rename_i r hr
    split at h
    · cases h
      intro c hc
      obtain ⟨x, hx, e⟩ := (allS_mem hr).2 c hc
      exact choiceS_short e (Nat.le_trans (M.cutS_mem _ _ x hx) hs)
    · cases h
theorem fileS_short {s : List UInt8} {f : M.Fl} (h : M.fileS s = some f) (hs : s.length ≤ 8000) : f.path.length ≤ 8000 ∧ f.content.length ≤ 8000 := by
  unfold M.fileS at h
  split at h
  · cases h
  · split at h
    · cases h
      constructor
      · simp only [List.length_take]; omega
      · simp only [List.length_drop]; omega
    · cases h
theorem titleS_short {s : List UInt8} {a b : List UInt8} (h : M.titleS s = some (a, b)) (hs : s.length ≤ 8000) : a.length ≤ 8000 ∧ b.length ≤ 8000 := by
  have hm := M.cutS_mem s [32]
  unfold M.titleS at h
  split at h
  · rename_i x y z e
    rw [e] at hm
    have h1 := hm y (by simp)
    have h2 := hm z (by simp)
    split at h
    · cases h; exact ⟨by omega, by omega⟩
    · cases h
  · cases h
theorem lineS_short {p q : M.Pk} {k : Nat} {s : List UInt8} (hp : ShortP p) (hs : s.length ≤ 8000) (h : M.lineS p k s = some q) : ShortP q := by
  unfold M.lineS at h
  split at h
  · split at h
    · cases h
    · rename_i a b e
      cases h
      have := titleS_short e hs
      exact ⟨this.1, this.2, hp.needn, hp.needs, hp.bars, hp.filen, hp.files⟩
  · split at h
    · split at h
      · cases h
      · rename_i l hl
        split at h
        · cases h
          refine ⟨hp.name, hp.ver, by show l.length ≤ _; omega, fun g hg => ?_, hp.bars, hp.filen, hp.files⟩
          obtain ⟨x, hx, e⟩ := (allS_mem hl).2 g hg
          refine choicesS_short (s := x) (sep := [32, 124, 32]) (m := 3) e (by decide) ?_
          have := M.cutS_mem _ _ x hx
          simp only [List.length_drop] at this
          omega
        · cases h
    · split at h
      · split at h
        · cases h
        · rename_i l hl
          cases h
          exact ⟨hp.name, hp.ver, hp.needn, hp.needs, choicesS_short hl (by decide) (by simp only [List.length_drop]; omega), hp.filen, hp.files⟩
      · split at h
        · rename_i hc
          split at h
          · cases h
          · rename_i f hf
            split at h
            · cases h
              refine ⟨hp.name, hp.ver, hp.needn, hp.needs, hp.bars, by simp; omega, fun g hg => ?_⟩
              rcases List.mem_append.mp hg with hg | hg
              · exact hp.files g hg
              · simp at hg
                subst hg
                exact fileS_short hf (by simp only [List.length_drop]; omega)
            · cases h
        · cases h
theorem linesS_short : ∀ {l : List (List UInt8)} {k : Nat} {p q : M.Pk}, ShortP p → (∀ x ∈ l, x.length ≤ 8000) → M.linesS l k p = .inr q → ShortP q
  | [], k, p, q, hp, _, h => by simp only [M.linesS, Sum.inr.injEq] at h; subst h; exact hp
  | s :: l, k, p, q, hp, hl, h => by
    simp only [M.linesS] at h
    split at h
    · cases h
    · rename_i p' e
      exact linesS_short (lineS_short hp (hl s (by simp)) e) (fun x hx => hl x (by simp [hx])) h
theorem swapAt_mem {α : Type} {l : List α} {k : Nat} {x : α} (h : x ∈ M.swapAt l k) : x ∈ l := by
  unfold M.swapAt at h
  split at h
  · rename_i a b ha hb
    have ia : a ∈ l := List.mem_of_getElem? ha
    have ib : b ∈ l := List.mem_of_getElem? hb
    rcases List.mem_or_eq_of_mem_set h with h | rfl
    · rcases List.mem_or_eq_of_mem_set h with h | rfl
      · exact h
      · exact ia
    · exact ib
  · exact h
theorem bub_mem : ∀ {k : Nat} {l : List M.Fl} {x : M.Fl}, x ∈ M.bub k l → x ∈ l
  | 0, l, x, h => h
  | k + 1, l, x, h => by
    unfold M.bub at h
    split at h
    · split at h
      · exact swapAt_mem (bub_mem h)
      · exact h
    · exact h
theorem srt_mem : ∀ {m i : Nat} {l : List M.Fl} {x : M.Fl}, x ∈ M.srt m i l → x ∈ l
  | 0, _, l, x, h => h
  | m + 1, i, l, x, h => by
    unfold M.srt at h
    split at h
    · exact bub_mem (srt_mem h)
    · exact h
theorem srt_len : ∀ (m i : Nat) (l : List M.Fl), (M.srt m i l).length = l.length
  | 0, _, l => rfl
  | m + 1, i, l => by
    unfold M.srt
    split
    · rw [srt_len m, M.bub_len]
    · rfl
theorem emptyShort : ShortP M.emptyPk := ⟨by simp [M.emptyPk], by simp [M.emptyPk], by simp [M.emptyPk], by simp [M.emptyPk], ⟨by simp [M.emptyPk], by simp [M.emptyPk]⟩, by simp [M.emptyPk], by simp [M.emptyPk]⟩
theorem trimS_len (s : List UInt8) : (M.trimS s).length ≤ s.length := by
  unfold M.trimS
  split
  · simp
  · exact Nat.le_refl _
theorem readS_short {s : List UInt8} {p : M.Pk} (h : M.readS s = .inr p) : ShortP p := by
  unfold M.readS at h
  split at h
  · cases h
  · rename_i h3
    split at h
    · cases h
    · rename_i q e
      cases h
      have hq := linesS_short emptyShort (fun x hx => by have := M.cutS_mem _ _ x hx; have := trimS_len s; omega) e
      exact ⟨hq.name, hq.ver, hq.needn, hq.needs, hq.bars, by show (M.sortF q.files).length ≤ _; unfold M.sortF; rw [srt_len]; exact hq.filen, fun f hf => hq.files f (srt_mem hf)⟩
end Go.Proofs.YtgnfknjopafngaaGreatDoor
namespace Go.Proofs.YtgnfknjopafngaaGreatDoor
open Go.RowKit
def CodePost (s : ByteArray) (w : World) (e : Ending) (w' : World) : Prop :=
  ∃ (T N : ByteArray) (a b c : Nat), e = .returned (.tuple #[.string T, .agg #[.int .i64 a, .int .i64 b, .int .i64 c, .string N]]) ∧ Below w.heap.size w w' ∧
    (∀ n, readB s = .inl n → T = ⟨#[]⟩ ∧ N = ⟨#[]⟩ ∧ a = 1 ∧ b = 0 ∧ c = n) ∧ ∀ p, readB s = .inr p → a = 0 ∧ T.data.toList = M.printS p
theorem PkVal.belowL {w w' : World} {p : M.Pk} {v : Value} (h : PkVal w p v) (hb : Below w.heap.size w w') : PkVal w' p v := by
  obtain ⟨nv, bv, fv, e, h1, h2, h3⟩ := h
  have kk : ∀ g o, 0 ≤ g → g < w.heap.size → CellS w w' g o := fun g o _ hg => belowS hb hg
  exact ⟨nv, bv, fv, e, (h1.keep kk).wide (Nat.le_refl _) hb.size, (h2.keep kk).wide (Nat.le_refl _) hb.size, (h3.keep kk).wide (Nat.le_refl _) hb.size⟩
theorem bytes_same {a b : ByteArray} (h : a.data.toList = b.data.toList) : a = b := by
  cases a with
  | mk x =>
    cases b with
    | mk y => exact congrArg ByteArray.mk (Array.toList_inj.mp h)
end Go.Proofs.YtgnfknjopafngaaGreatDoor
namespace Go.Proofs.YtgnfknjopafngaaGreatDoor
open Go.RowKit Go.Extern.Stop Go.Stop Go.Extern
set_option maxRecDepth 100000 in
set_option maxHeartbeats 1000000 in
theorem parts_nil (w : World) :
    Calls Tryz.prog 35 #[.nilIface] w fun e w' => e = .returned (.agg #[.int .i64 0, .int .i64 0, .int .i64 0, .string ⟨#[]⟩]) ∧ Below w.heap.size w w' := by
  go_enter Tryz.func35, Tryz.ntmps35
  go_wp2
  refine bodyPost_ret (v := .agg #[.int .i64 0, .int .i64 0, .int .i64 0, .string ⟨#[]⟩]) (by simp [results, Tryz.results35, go_sem]) rfl ⟨rfl, ?_⟩
  exact (Below.refl _ w).alloc (Nat.le_refl _) _
structure FaultAt (w : World) (pb a b c : Nat) (N : ByteArray) : Prop where
  c0 : w.cell? ⟨pb, 0, none⟩ = some (.int .i64 a)
  c1 : w.cell? ⟨pb, 1, none⟩ = some (.int .i64 b)
  c2 : w.cell? ⟨pb, 2, none⟩ = some (.int .i64 c)
  c3 : w.cell? ⟨pb, 3, none⟩ = some (.string N)
theorem FaultAt.lt {w : World} {pb a b c : Nat} {N : ByteArray} (h : FaultAt w pb a b c N) : pb < w.heap.size := by
  have h0 := h.c0
  rcases Nat.lt_or_ge pb w.heap.size with h | h
  · exact h
  · simp [World.cell?, Array.getElem?_eq_none h] at h0
set_option maxRecDepth 100000 in
set_option maxHeartbeats 1000000 in
theorem parts_fault (w : World) (pb a b c : Nat) (N : ByteArray) (hg : ErrLaid w) (hF : FaultAt w pb a b c N) (ha : 1 ≤ a) (ha8 : a ≤ 8) :
    Calls Tryz.prog 35 #[.iface 112 (.pointer (some ⟨pb, 0, none⟩))] w fun e w' => e = .returned (.agg #[.int .i64 a, .int .i64 b, .int .i64 c, .string N]) ∧ Below w.heap.size w w' := by
  have hpb := hF.lt
  have cA := fun W hW h1 h2 => as_hit ⟨pb, 0, none⟩ ⟨w.heap.size + 1, 0, none⟩ (.pointer none) W (hg.below hW) h1 h2
  go_enter Tryz.func35, Tryz.ntmps35
  go_wp2_with fail
  refine (cA _ ?_ ?_ ?_).mono ?_
  · exact ((Below.refl _ w).alloc (Nat.le_refl _) _).alloc (by simp) _
  · simp
  · simp
  rintro e w3 ⟨rfl, W, hW, hw3⟩
  have hBW : Below w.heap.size w W := (((Below.refl _ w).alloc (Nat.le_refl _) _).alloc (by simp) _).trans (hW.mono (by simp; omega))
  have hsz : w.heap.size + 1 < W.heap.size := by have := hW.size; simp at this; omega
  have hr : ∀ o u, [Value.int .i64 0, .int .i64 0, .int .i64 0, .string ⟨#[]⟩][o]? = some u → w3.cell? ⟨w.heap.size, o, none⟩ = some u := fun o u hu => by
    rw [hw3, cell_set_block _ _ _ _ _ _ (by omega), hW.cell (p := ⟨w.heap.size, o, none⟩) (by simp; omega)]
    exact (((Below.refl _ (w.alloc _)).alloc (Nat.le_refl _) _).cell (p := ⟨w.heap.size, o, none⟩) (by simp)).trans (new_at w _ _ o u hu)
  have hp : ∀ o, w3.cell? ⟨pb, o, none⟩ = w.cell? ⟨pb, o, none⟩ := fun o => by
    rw [hw3, cell_set_block _ _ _ _ _ _ (by omega)]
    exact hBW.cell (p := ⟨pb, o, none⟩) hpb
  have hfz : ∀ o, w3.frozen? ⟨w.heap.size, o, none⟩ = false := fun o => by
    rw [hw3, World.frozen?_setCell, hW.frozen (p := ⟨w.heap.size, o, none⟩) (by simp; omega)]
    exact (((Below.refl _ (w.alloc _)).alloc (Nat.le_refl _) _).frozen (p := ⟨w.heap.size, o, none⟩) (by simp)).trans (by unfold World.frozen?; rw [(MapKept.heap_alloc w _).1]; simp)
  have qf : w3.cell? ⟨w.heap.size + 1, 0, none⟩ = some (.pointer (some ⟨pb, 0, none⟩)) := by
    rw [hw3]
    exact World.cell?_setCell_same _ _ _ ((hW.cell (p := ⟨w.heap.size + 1, 0, none⟩) (by simp)).trans (by simp; rfl))
  have hB3 : Below w.heap.size w w3 := by rw [hw3]; exact hBW.setCell (by show w.heap.size ≤ w.heap.size + 1; omega) _
  have hs3 : w.heap.size + 1 < w3.heap.size := by rw [hw3, size_set]; exact hsz
  have p0 := (hp 0).trans hF.c0
  have p1 := (hp 1).trans hF.c1
  have p2 := (hp 2).trans hF.c2
  have p3 := (hp 3).trans hF.c3
  have r0 := hr 0 _ rfl
  have r1 := hr 1 _ rfl
  have r2 := hr 2 _ rfl
  have r3 := hr 3 _ rfl
  clear hr hp hw3 hW hBW hsz cA hF
  have ha0 : ((a : Int) == 0) = false := by rw [beq_eq_false_iff_ne]; omega
  go_wp2
  go_loopw [4] (fun i wr => ∃ (k n : Nat), i = .int .i64 k ∧ k ≤ 9 ∧ wr = w3.drewN n) (fun i _ => 9 - (intOf i).toNat)
  case atStart => exact ⟨0, 0, rfl, by omega, rfl⟩
  case round =>
    obtain ⟨k, n, rfl, hk, rfl⟩ := hrel
    by_cases hlt : k ≤ 8
    · have hlt' : (k : Int) ≤ 8 := by omega
      by_cases hka : (a : Int) = k
      · have e1 : ((k : Int) == a) = true := by rw [beq_iff_eq]; exact hka.symm
        have cI : ∀ m, Calls Tryz.prog 58 #[.iface 112 (.pointer (some ⟨pb, 0, none⟩)), .iface 115 (.int .i64 k)] (w3.drewN m) fun e w' => e = .returned (.bool true) ∧ w' = w3.drewN m := fun m => (is_kind pb a k (w3.drewN m) p0).mono fun e w' ⟨h1, h2⟩ => ⟨by rw [h1, decide_eq_true hka], h2⟩
        clear hka
        go_wp2
        go_quiet ((go_at_call 58; go_must (exact quiet_add (cI _))))
        go_wp2
        go_roundw
        case rel => exact ⟨k + 1, _, by go_num, by omega, rfl⟩
        case measure => simp [intOf]; omega
      · have e1 : ((k : Int) == a) = false := by rw [beq_eq_false_iff_ne]; exact fun h => hka h.symm
        have cI : ∀ m, Calls Tryz.prog 58 #[.iface 112 (.pointer (some ⟨pb, 0, none⟩)), .iface 115 (.int .i64 k)] (w3.drewN m) fun e w' => e = .returned (.bool false) ∧ w' = w3.drewN m := fun m => (is_kind pb a k (w3.drewN m) p0).mono fun e w' ⟨h1, h2⟩ => ⟨by rw [h1, decide_eq_false hka], h2⟩
        clear hka
        go_wp2
        go_quiet ((go_at_call 58; go_must (exact quiet_add (cI _))))
        go_wp2
        go_roundw
        case rel => exact ⟨k + 1, _, by go_num, by omega, rfl⟩
        case measure => simp [intOf]; omega
    · have hlt' : ¬ (k : Int) ≤ 8 := by omega
      go_wp2
      go_region
      go_wp2
      refine bodyPost_ret (v := .agg #[.int .i64 a, .int .i64 b, .int .i64 c, .string N]) (by simp [results, Tryz.results35, go_sem, r0, r1, r2, r3]) rfl ⟨rfl, ?_⟩
      exact ((((below_drewN hB3 _).setCell (Nat.le_refl _) _).setCell (Nat.le_refl _) _).setCell (Nat.le_refl _) _).setCell (Nat.le_refl _) _
end Go.Proofs.YtgnfknjopafngaaGreatDoor
namespace Go.Proofs.YtgnfknjopafngaaGreatDoor
open Go.RowKit Go.Extern.Stop Go.Stop Go.Extern
def OwnPost (s : ByteArray) (w : World) (e : Ending) (w' : World) : Prop :=
  Below w.heap.size w w' ∧ ((∃ n pb, readB s = .inl n ∧ e = .returned (.tuple #[.string ⟨#[]⟩, .iface 112 (.pointer (some ⟨pb, 0, none⟩))]) ∧ FaultAt w' pb 1 0 n ⟨#[]⟩) ∨
    (∃ p T, readB s = .inr p ∧ e = .returned (.tuple #[.string T, .nilIface]) ∧ T.data.toList = M.printS p))
def Ready (w : World) : Prop := ErrLaid w ∧ ∃ m, w.cell? ⟨1, 0, none⟩ = some (.int .i64 m)
theorem Ready.below {w w' : World} (h : Ready w) (hb : Below w.heap.size w w') : Ready w' := by
  obtain ⟨h1, m, h2⟩ := h
  have hlt : 1 < w.heap.size := by
    rcases Nat.lt_or_ge 1 w.heap.size with h | h
    · exact h
    · simp [World.cell?, Array.getElem?_eq_none h] at h2
  exact ⟨h1.below hb, m, (hb.cell (p := ⟨1, 0, none⟩) hlt).trans h2⟩
theorem printS_ne (p : M.Pk) (T : ByteArray) (h : T.data.toList = M.printS p) : T.toList.isEmpty = false := by
  rw [Lib.toList_data, h]
  rfl
set_option maxRecDepth 100000 in
set_option maxHeartbeats 1000000 in
theorem plain_read (s : ByteArray) (w : World) (hg0 : Ready w) (hown : ∀ w, Ready w → Calls Tryz.prog 34 #[.string s] w (OwnPost s w)) :
    Calls Tryz.prog 13 #[.string s] w (CodePost s w) := by
  have hB0 : Below w.heap.size w (w.alloc (.cells #[.int .i64 0, .int .i64 0, .int .i64 0, .string ⟨#[]⟩] 23)) := (Below.refl _ w).alloc (Nat.le_refl _) _
  have hg := hg0.1
  have cO := hown _ (hg0.below hB0)
  go_enter Tryz.func13, Tryz.ntmps13
  go_wp2_with fail
  refine cO.mono ?_
  rintro e w1 ⟨hB1, ⟨n, pb, hr, rfl, hF⟩ | ⟨p, T, hr, rfl, hT⟩⟩
  · have hB2 : Below w.heap.size w w1 := hB0.trans (hB1.mono (by simp))
    have cP := parts_fault w1 pb 1 0 n ⟨#[]⟩ (hg.below hB2) hF (by decide) (by decide)
    go_wp2_with fail
    refine cP.mono ?_
    rintro e w2 ⟨rfl, hB3⟩
    go_wp2
    generalize hW4 : w2.alloc (.cells #[Value.int .i64 1, .int .i64 0, .int .i64 n, .string ⟨#[]⟩] 23) = w4
    have hB4 : Below w1.heap.size w1 w4 := by rw [← hW4]; exact hB3.alloc hB3.size _
    have hz1 : w.heap.size < w1.heap.size := by have := hB1.size; simp at this; omega
    have hz : ∀ o u, [Value.int .i64 0, .int .i64 0, .int .i64 0, .string ⟨#[]⟩][o]? = some u → w4.cell? ⟨w.heap.size, o, none⟩ = some u := fun o u hu => (hB4.cell (p := ⟨w.heap.size, o, none⟩) hz1).trans ((hB1.cell (p := ⟨w.heap.size, o, none⟩) (by simp)).trans (new_at w _ _ o u hu))
    have z0 := hz 0 _ rfl
    have z1 := hz 1 _ rfl
    have z2 := hz 2 _ rfl
    have z3 := hz 3 _ rfl
    have zf : ∀ o, w4.frozen? ⟨w.heap.size, o, none⟩ = false := fun o => (hB4.frozen (p := ⟨w.heap.size, o, none⟩) hz1).trans ((hB1.frozen (p := ⟨w.heap.size, o, none⟩) (by simp)).trans (by unfold World.frozen?; rw [(MapKept.heap_alloc w _).1]; simp))
    have hy : ∀ o u, [Value.int .i64 1, .int .i64 0, .int .i64 n, .string ⟨#[]⟩][o]? = some u → w4.cell? ⟨w2.heap.size, o, none⟩ = some u := fun o u hu => by rw [← hW4]; exact new_at w2 _ _ o u hu
    have y0 := hy 0 _ rfl
    have y1 := hy 1 _ rfl
    have y2 := hy 2 _ rfl
    have y3 := hy 3 _ rfl
    have HB4 : Hid (Below w.heap.size w w4) := hB2.trans (hB4.mono hB2.size)
    clear hz hy hW4 hB4 hB3 hB1 hB0 cP
    go_region
    go_wp2
    refine bodyPost_ret (v := .tuple #[.string ⟨#[]⟩, .agg #[.int .i64 1, .int .i64 0, .int .i64 n, .string ⟨#[]⟩]]) (by simp [results, Tryz.results13, go_sem, z0, z1, z2, z3]) rfl ⟨⟨#[]⟩, ⟨#[]⟩, 1, 0, n, rfl, ?_, ?_, ?_⟩
    · exact ((((HB4.out.setCell (Nat.le_refl _) _).setCell (Nat.le_refl _) _).setCell (Nat.le_refl _) _).setCell (Nat.le_refl _) _).drew
    · intro m hm; rw [hr] at hm; cases hm; exact ⟨rfl, rfl, rfl, rfl, rfl⟩
    · intro q hq; rw [hr] at hq; cases hq
  · have hB2 : Below w.heap.size w w1 := hB0.trans (hB1.mono (by simp))
    have cP := parts_nil w1
    have hne := printS_ne p T hT
    go_wp2_with fail
    refine cP.mono ?_
    rintro e w2 ⟨rfl, hB3⟩
    go_wp2
    generalize hW4 : w2.alloc (.cells #[Value.int .i64 0, .int .i64 0, .int .i64 0, .string ⟨#[]⟩] 23) = w4
    have hB4 : Below w1.heap.size w1 w4 := by rw [← hW4]; exact hB3.alloc hB3.size _
    have hz1 : w.heap.size < w1.heap.size := by have := hB1.size; simp at this; omega
    have hz : ∀ o u, [Value.int .i64 0, .int .i64 0, .int .i64 0, .string ⟨#[]⟩][o]? = some u → w4.cell? ⟨w.heap.size, o, none⟩ = some u := fun o u hu => (hB4.cell (p := ⟨w.heap.size, o, none⟩) hz1).trans ((hB1.cell (p := ⟨w.heap.size, o, none⟩) (by simp)).trans (new_at w _ _ o u hu))
    have z0 := hz 0 _ rfl
    have z1 := hz 1 _ rfl
    have z2 := hz 2 _ rfl
    have z3 := hz 3 _ rfl
    have zf : ∀ o, w4.frozen? ⟨w.heap.size, o, none⟩ = false := fun o => (hB4.frozen (p := ⟨w.heap.size, o, none⟩) hz1).trans ((hB1.frozen (p := ⟨w.heap.size, o, none⟩) (by simp)).trans (by unfold World.frozen?; rw [(MapKept.heap_alloc w _).1]; simp))
    have hy : ∀ o u, [Value.int .i64 0, .int .i64 0, .int .i64 0, .string ⟨#[]⟩][o]? = some u → w4.cell? ⟨w2.heap.size, o, none⟩ = some u := fun o u hu => by rw [← hW4]; exact new_at w2 _ _ o u hu
    have y0 := hy 0 _ rfl
    have y1 := hy 1 _ rfl
    have y2 := hy 2 _ rfl
    have y3 := hy 3 _ rfl
    have HB4 : Hid (Below w.heap.size w w4) := hB2.trans (hB4.mono hB2.size)
    clear hz hy hW4 hB4 hB3 hB1 hB0 cP
    go_region
    go_wp2
    refine bodyPost_ret (v := .tuple #[.string T, .agg #[.int .i64 0, .int .i64 0, .int .i64 0, .string ⟨#[]⟩]]) (by simp [results, Tryz.results13, go_sem, z0, z1, z2, z3]) rfl ⟨T, ⟨#[]⟩, 0, 0, 0, rfl, ?_, ?_, ?_⟩
    · exact ((((HB4.out.setCell (Nat.le_refl _) _).setCell (Nat.le_refl _) _).setCell (Nat.le_refl _) _).setCell (Nat.le_refl _) _).drew
    · intro m hm; rw [hr] at hm; cases hm
    · intro q hq; rw [hr] at hq; cases hq; exact ⟨rfl, hT⟩
end Go.Proofs.YtgnfknjopafngaaGreatDoor
