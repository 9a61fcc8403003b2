import Derived.Test.YtgnfknjopafngaaGreatDoorKfk
import Derived.Test.YtgnfknjopafngaaGreatDoorKfb
namespace Go.Proofs.YtgnfknjopafngaaGreatDoor
open Go.RowKit
theorem fl_cell2 {l : List M.Fl} {k : Nat} (hk : k < l.length) : (flsCells l)[2 * k + 1]? = some (strV l[k].content) := by
  induction l generalizing k with
  | nil => simp at hk
  | cons f l ih =>
    cases k with
    | zero => simp [flsCells, flCells]
    | succ k =>
      have := ih (k := k) (by simpa using hk)
      simp only [flsCells, List.flatMap_cons, flCells] at this ⊢
      rw [show 2 * (k + 1) + 1 = 2 * k + 1 + 1 + 1 by omega]
      simpa using this
theorem flsCells_cons (f : M.Fl) (l : List M.Fl) : flsCells (f :: l) = strV f.path :: strV f.content :: flsCells l := rfl
theorem swap_cells : ∀ (l : List M.Fl) (k : Nat) (h : k + 1 < l.length),
    (((((flsCells l).set ((k + 1) * 2) (strV l[k].path)).set ((k + 1) * 2 + 1) (strV l[k].content)).set (k * 2) (strV l[k + 1].path)).set (k * 2 + 1) (strV l[k + 1].content)) = flsCells (M.swapAt l k)
  | [], k, h => by simp at h
  | [x], k, h => by simp at h
  | x :: y :: l, 0, h => by
    simp [M.swapAt, flsCells_cons]
  | x :: y :: l, k + 1, h => by
    have ih := swap_cells (y :: l) k (by simpa using h)
    have e : M.swapAt (x :: y :: l) (k + 1) = x :: M.swapAt (y :: l) k := by
      unfold M.swapAt
      simp only [List.getElem?_cons_succ]
      rw [List.getElem?_eq_getElem (by simpa using Nat.lt_of_succ_lt h), List.getElem?_eq_getElem (by simpa using h)]
      rfl
    rw [e, flsCells_cons x (M.swapAt (y :: l) k), ← ih, flsCells_cons x (y :: l)]
    rw [show (k + 1 + 1) * 2 = (k + 1) * 2 + 1 + 1 by omega, show (k + 1) * 2 = k * 2 + 1 + 1 by omega]
    rfl
theorem PAt.swap {w wx : World} {pb B g n cap k : Nat} {p : M.Pk} {nv bv : Value} (h : PAt w pb B p nv bv (.slice (some ⟨g, 0, none⟩) n cap)) (hb : Below w.heap.size w wx) (hn : p.files.length = n) (hk : k + 1 < p.files.length)
    (a b c d : Value) (ha : a = strV p.files[k].path) (hb' : b = strV p.files[k].content) (hc : c = strV p.files[k + 1].path) (hd : d = strV p.files[k + 1].content) :
    PAt ((((wx.setCell ⟨g, (k + 1) * 2, none⟩ a).setCell ⟨g, (k + 1) * 2 + 1, none⟩ b).setCell ⟨g, k * 2, none⟩ c).setCell ⟨g, k * 2 + 1, none⟩ d) pb B { p with files := M.swapAt p.files k } nv bv (.slice (some ⟨g, 0, none⟩) n cap) := by
  subst ha hb' hc hd hn
  have h1 := h.below hb
  have hgB : B ≤ g := (h1.files.lt g rfl).1
  have hlt := h1.lt
  have ks : ∀ q o, q < B → CellS wx ((((wx.setCell ⟨g, (k + 1) * 2, none⟩ (strV p.files[k].path)).setCell ⟨g, (k + 1) * 2 + 1, none⟩ (strV p.files[k].content)).setCell ⟨g, k * 2, none⟩ (strV p.files[k + 1].path)).setCell ⟨g, k * 2 + 1, none⟩ (strV p.files[k + 1].content)) q o := fun q o hq => by
    exact ((setS (by omega)).trans ((setS (by omega)).trans ((setS (by omega)).trans (setS (by omega)))))
  have kk : ∀ q o, pb + 1 ≤ q → q < B → CellS wx ((((wx.setCell ⟨g, (k + 1) * 2, none⟩ (strV p.files[k].path)).setCell ⟨g, (k + 1) * 2 + 1, none⟩ (strV p.files[k].content)).setCell ⟨g, k * 2, none⟩ (strV p.files[k + 1].path)).setCell ⟨g, k * 2 + 1, none⟩ (strV p.files[k + 1].content)) q o := fun q o _ hq => ks q o hq
  have hown := h1.files
  refine ⟨(ks pb 0 hlt).1.trans h1.c0, (ks pb 1 hlt).1.trans h1.c1, (ks pb 2 hlt).1.trans h1.c2, (ks pb 3 hlt).1.trans h1.c3, (ks pb 4 hlt).1.trans h1.c4, fun o => ?_, hlt, ?_, h1.needs.keep kk, h1.bars.keep kk, ?_, h1.nnil, fun e => ?_⟩
  · rw [World.frozen?_setCell, World.frozen?_setCell, World.frozen?_setCell, World.frozen?_setCell]; exact h1.fz o
  · rw [size_set, size_set, size_set, size_set]; exact h1.le
  · show World.ownsRow _ _ _ _ _ (M.swapAt p.files k).length (flsCells (M.swapAt p.files k))
    rw [M.swapAt_len, ← swap_cells p.files k hk]
    exact ((((hown.stored _ _).1.stored _ _).1.stored _ _).1.stored _ _).1
  · have e' : M.swapAt p.files k = [] := e
    have e2 := congrArg List.length e'
    rw [M.swapAt_len, List.length_nil] at e2
    omega
theorem PAt.fcell {w : World} {pb B g n cap : Nat} {p : M.Pk} {nv bv : Value} (h : PAt w pb B p nv bv (.slice (some ⟨g, 0, none⟩) n cap)) (k : Nat) (hk : k < p.files.length) :
    w.cell? ⟨g, k * 2, none⟩ = some (.string ⟨p.files[k].path.toArray⟩) ∧ w.cell? ⟨g, k * 2 + 1, none⟩ = some (.string ⟨p.files[k].content.toArray⟩) := by
  obtain ⟨_, h0, _⟩ | ⟨g', cap', e, _, _, _, hc⟩ := RowIn.own h.files
  · omega
  · obtain rfl : g = g' := by cases e; rfl
    exact ⟨hc _ _ (by rw [Nat.mul_comm]; exact fl_cell hk), hc _ _ (by rw [Nat.mul_comm]; exact fl_cell2 hk)⟩
theorem PAt.ffz {w : World} {pb B g n cap : Nat} {p : M.Pk} {nv bv : Value} (h : PAt w pb B p nv bv (.slice (some ⟨g, 0, none⟩) n cap)) (hn : p.files.length = n) : ∀ o, w.frozen? ⟨g, o, none⟩ = false := by
  have h1 := h.files
  rw [hn] at h1
  exact fun o => h1.frozenAt o
theorem bub_less {l : List M.Fl} {k : Nat} (h : k + 1 < l.length) (hl : Op.bytesLess l[k + 1].path l[k].path = true) : M.bub (k + 1) l = M.bub k (M.swapAt l k) := by
  rw [M.bub, List.getElem?_eq_getElem (by omega), List.getElem?_eq_getElem h]
  simp only [hl, if_true]
theorem bub_stop {l : List M.Fl} {k : Nat} (h : k + 1 < l.length) (hl : Op.bytesLess l[k + 1].path l[k].path = false) : M.bub (k + 1) l = l := by
  rw [M.bub, List.getElem?_eq_getElem (by omega), List.getElem?_eq_getElem h]
  simp [hl]
theorem srt_go {l : List M.Fl} {m i : Nat} (h : i < l.length) : M.srt (m + 1) i l = M.srt m (i + 1) (M.bub i l) := by
  rw [M.srt, if_pos h]
theorem srt_stop {l : List M.Fl} {m i : Nat} (h : ¬ i < l.length) : M.srt m i l = l := by
  cases m with
  | zero => rfl
  | succ m => rw [M.srt, if_neg h]
end Go.Proofs.YtgnfknjopafngaaGreatDoor
namespace Go.Proofs.YtgnfknjopafngaaGreatDoor
open Go.RowKit
theorem trim_1 (s : ByteArray) (h : 0 < s.size) (h2 : (s[s.size - 1].toNat : Int) = 10) : M.trimS s.data.toList = (s.extract 0 (s.size - 1)).data.toList := by
  have hl : 0 < s.data.toList.length := by simpa using h
  unfold M.trimS
  have e : s.data.toList.getLast? = some (s[s.size - 1]) := by
    rw [List.getLast?_eq_getElem?]
    simp only [Array.length_toList, ByteArray.size_data]
    rw [List.getElem?_eq_getElem (by simp; omega)]
    rfl
  have e2 : s[s.size - 1] = 10 := UInt8.toNat_inj.mp (by show s[s.size - 1].toNat = 10; omega)
  rw [e, e2, if_pos rfl, ext_upto, List.dropLast_eq_take]
  simp
theorem trim_2 (s : ByteArray) (h : 0 < s.size) (h2 : ¬ (s[s.size - 1].toNat : Int) = 10) : M.trimS s.data.toList = s.data.toList := by
  unfold M.trimS
  have e : s.data.toList.getLast? = some (s[s.size - 1]) := by
    rw [List.getLast?_eq_getElem?]
    simp only [Array.length_toList, ByteArray.size_data]
    rw [List.getElem?_eq_getElem (by simp; omega)]
    rfl
  rw [e, if_neg (fun e => h2 (by simp only [Option.some.injEq] at e; rw [e]; rfl))]
theorem trim_0 (s : ByteArray) (h : s.size = 0) : M.trimS s.data.toList = s.data.toList := by
  have : s.data.toList = [] := List.length_eq_zero_iff.mp (by simpa using h)
  rw [this]; rfl
def PkVal (w : World) (p : M.Pk) (v : Value) : Prop :=
  ∃ nv bv fv, v = .agg #[.string ⟨p.name.toArray⟩, .string ⟨p.ver.toArray⟩, nv, bv, fv] ∧ NeedsIn w 0 w.heap.size nv p.needs ∧ RowIn w 0 w.heap.size bv p.bars.length (chsCells p.bars) ∧ RowIn w 0 w.heap.size fv p.files.length (flsCells p.files)
def PkFrom (lo : Nat) (w : World) (p : M.Pk) (v : Value) : Prop :=
  ∃ nv bv fv, v = .agg #[.string ⟨p.name.toArray⟩, .string ⟨p.ver.toArray⟩, nv, bv, fv] ∧ NeedsIn w lo w.heap.size nv p.needs ∧ RowIn w lo w.heap.size bv p.bars.length (chsCells p.bars) ∧ RowIn w lo w.heap.size fv p.files.length (flsCells p.files)
theorem PkFrom.val {lo : Nat} {w : World} {p : M.Pk} {v : Value} (h : PkFrom lo w p v) : PkVal w p v := by
  obtain ⟨nv, bv, fv, h1, h2, h3, h4⟩ := h
  exact ⟨nv, bv, fv, h1, h2.wide (Nat.zero_le _) (Nat.le_refl _), h3.wide (Nat.zero_le _) (Nat.le_refl _), h4.wide (Nat.zero_le _) (Nat.le_refl _)⟩
def readB (s : ByteArray) : Sum Nat M.Pk := M.readS s.data.toList
def lineOf : Sum Nat M.Pk → Int
  | .inl n => n
  | .inr _ => -1
theorem PAt.val5 {w : World} {pb B r : Nat} {p : M.Pk} {nv bv fv nv' bv' : Value} (h : PAt w pb B p nv bv fv) (hr : r < pb) (hn : nv = nv') (hb : bv = bv') (a b c d e : Value) :
    PkFrom r (((((w.setCell ⟨r, 0, none⟩ a).setCell ⟨r, 1, none⟩ b).setCell ⟨r, 2, none⟩ c).setCell ⟨r, 3, none⟩ d).setCell ⟨r, 4, none⟩ e) p (.agg #[.string ⟨p.name.toArray⟩, .string ⟨p.ver.toArray⟩, nv', bv', fv]) := by
  subst hn hb
  have hs : (((((w.setCell ⟨r, 0, none⟩ a).setCell ⟨r, 1, none⟩ b).setCell ⟨r, 2, none⟩ c).setCell ⟨r, 3, none⟩ d).setCell ⟨r, 4, none⟩ e).heap.size = w.heap.size := by rw [size_set, size_set, size_set, size_set, size_set]
  have kk : ∀ g o, pb + 1 ≤ g → CellS w (((((w.setCell ⟨r, 0, none⟩ a).setCell ⟨r, 1, none⟩ b).setCell ⟨r, 2, none⟩ c).setCell ⟨r, 3, none⟩ d).setCell ⟨r, 4, none⟩ e) g o := fun g o hg => by
    exact ((setS (by omega)).trans ((setS (by omega)).trans ((setS (by omega)).trans ((setS (by omega)).trans (setS (by omega))))))
  have hle := h.le
  have hlt := h.lt
  refine ⟨nv, bv, fv, rfl, ?_, ?_, ?_⟩
  · rw [hs]; exact (h.needs.keep (fun g o h1 _ => kk g o h1)).wide (by omega) hle
  · rw [hs]; exact (h.bars.keep (fun g o h1 _ => kk g o h1)).wide (by omega) hle
  · rw [hs]; exact ((RowIn.own h.files).keep (fun g o h1 _ => kk g o (by omega))).wide (by omega) (Nat.le_refl _)
def ReadPost (s : ByteArray) (w : World) (e : Ending) (w' : World) : Prop :=
  ∃ v, e = .returned (.tuple #[v, .int .i64 (lineOf (readB s))]) ∧ (∀ p, readB s = .inr p → PkFrom w.heap.size w' p v) ∧ (∃ a b x1 n1 c1 x2 n2 c2 x3 n3 c3, v = .agg #[.string a, .string b, .slice x1 n1 c1, .slice x2 n2 c2, .slice x3 n3 c3]) ∧ Below w.heap.size w w'
set_option maxRecDepth 100000 in
set_option maxHeartbeats 1000000 in
theorem read_long (s : ByteArray) (w : World) (h : 300 < s.size) (h2 : s.size ≤ 1000000) :
    Calls Tryz.prog 14 #[.string s] w (ReadPost s w) := by
  have HE : Hid (readB s = .inl 0) := by show M.readS _ = _; unfold M.readS; rw [if_pos (by simpa using h)]
  go_enter Tryz.func14, Tryz.ntmps14
  go_wp2
  refine bodyPost_ret (v := .tuple #[.agg #[.string ⟨#[]⟩, .string ⟨#[]⟩, .slice none 0 0, .slice none 0 0, .slice none 0 0], .int .i64 0]) (by simp [results, Tryz.results14, go_sem]) rfl ⟨.agg #[.string ⟨#[]⟩, .string ⟨#[]⟩, .slice none 0 0, .slice none 0 0, .slice none 0 0], ?_, ?_, ⟨⟨#[]⟩, ⟨#[]⟩, none, 0, 0, none, 0, 0, none, 0, 0, rfl⟩, ?_⟩
  · rw [HE.out]; rfl
  · intro p hp; rw [HE.out] at hp; cases hp
  · exact (Below.refl _ w).alloc (Nat.le_refl _) _
def preL (ps : List ByteArray) (k : Nat) (p : M.Pk) : Prop := M.linesS ((ps.take k).map (fun p => p.data.toList)) 0 M.emptyPk = .inr p
theorem preL_split {ps : List ByteArray} {k : Nat} (hk : k < ps.length) : ps.map (fun p => p.data.toList) = (ps.take k).map (fun p => p.data.toList) ++ ps[k].data.toList :: (ps.drop (k + 1)).map (fun p => p.data.toList) := by
  have e1 : ps = ps.take k ++ ps[k] :: ps.drop (k + 1) := by rw [← List.drop_eq_getElem_cons hk, List.take_append_drop]
  have e2 := congrArg (List.map (fun p : ByteArray => p.data.toList)) e1
  rw [List.map_append, List.map_cons] at e2
  exact e2
theorem preL_go {ps : List ByteArray} {k : Nat} {p q : M.Pk} (h : preL ps k p) (hk : k < ps.length) (hc : M.lineS p k ps[k].data.toList = some q) : preL ps (k + 1) q := by
  unfold preL at h ⊢
  rw [List.take_add_one, List.getElem?_eq_getElem hk]
  simp only [Option.toList_some, List.map_append, List.map_cons, List.map_nil]
  rw [M.linesS_snoc 0 M.emptyPk ps[k].data.toList [] p h]
  have e : 0 + ((ps.take k).map (fun p : ByteArray => p.data.toList)).length = k := by simp; omega
  rw [e, hc]
  rfl
theorem preL_no {ps : List ByteArray} {k : Nat} {p : M.Pk} (h : preL ps k p) (hk : k < ps.length) (hc : M.lineS p k ps[k].data.toList = none) : M.linesS (ps.map (fun p => p.data.toList)) 0 M.emptyPk = .inl (k + 1) := by
  unfold preL at h
  rw [preL_split hk, M.linesS_snoc 0 M.emptyPk ps[k].data.toList _ p h]
  have e : 0 + ((ps.take k).map (fun p : ByteArray => p.data.toList)).length = k := by simp; omega
  rw [e, hc]
theorem emptyOk : PkOk M.emptyPk := ⟨by decide, by decide, by decide, fun f hf => by simp [M.emptyPk] at hf⟩
theorem new_at (w : World) (xs : List Value) (t : TypeId) (j : Nat) (u : Value) (hj : xs[j]? = some u) : (w.alloc (.cells xs.toArray t)).cell? ⟨w.heap.size, j, none⟩ = some u := by
  have := new_cells w xs t j u hj
  have e2 : ((⟨w.heap.size, 0, none⟩ : Addr).add j) = ⟨w.heap.size, j, none⟩ := by unfold Addr.add; by_cases h : j = 0 <;> simp [h]
  rwa [e2] at this
theorem PkAt.new (w : World) : PkAt (w.alloc (.cells #[.string ⟨#[]⟩, .string ⟨#[]⟩, .slice none 0 0, .slice none 0 0, .slice none 0 0] 30)) w.heap.size M.emptyPk := by
  refine ⟨w.heap.size + 1, .slice none 0 0, .slice none 0 0, .slice none 0 0, ?_⟩
  have hc := new_at w [.string ⟨#[]⟩, .string ⟨#[]⟩, .slice none 0 0, .slice none 0 0, .slice none 0 0] 30
  exact ⟨hc 0 _ rfl, hc 1 _ rfl, hc 2 _ rfl, hc 3 _ rfl, hc 4 _ rfl, fun o => by unfold World.frozen?; rw [(MapKept.heap_alloc w _).1]; simp, by omega, by simp, NeedsIn.nil _ _ _, .inl ⟨rfl, rfl, rfl⟩, World.ownsRow_nil _ _ _ _, fun _ => rfl, fun _ => rfl⟩
set_option maxRecDepth 100000 in
set_option maxHeartbeats 2000000 in
theorem read_lines (s T : ByteArray) (w : World) (h : s.size ≤ 300) (hT : T.size ≤ s.size) (hTr : M.trimS s.data.toList = T.data.toList)
    (hcase : (¬ (0 : Int) < s.size ∧ s = T) ∨ (∃ h0 : 0 < s.size, ((s[s.size - 1].toNat : Int) == 10) = true ∧ T = s.extract 0 (s.size - 1)) ∨ (∃ h0 : 0 < s.size, ((s[s.size - 1].toNat : Int) == 10) = false ∧ s = T)) :
    Calls Tryz.prog 14 #[.string s] w (ReadPost s w) := by
  obtain ⟨ps, hps⟩ := bytes_list (cutB T ⟨#[10]⟩)
  have HE : Hid (readB s = (match M.linesS (ps.map (fun p => p.data.toList)) 0 M.emptyPk with | .inl n => .inl n | .inr p => .inr { p with files := M.sortF p.files })) := by
    show M.readS _ = _
    unfold M.readS
    rw [if_neg (by simp; omega), hTr, ← hps]
    rfl
  have hpn : ps.length ≤ 301 := by
    have e : (cutB T ⟨#[10]⟩).length = ps.length := by rw [hps]; simp
    have : (cutB T ⟨#[10]⟩).length ≤ T.data.toList.length + 1 := (M.cutS_len T.data.toList [10]).2
    simp only [Array.length_toList, ByteArray.size_data] at this
    omega
  have HZ : Hid (∀ q ∈ ps, q.size ≤ 100000) := fun q hq => by have := piece_size hps q hq; omega
  have cC := fun wx => cut_c T ⟨#[10]⟩ wx (by decide) (by omega) (by decide) ps hps
  clear hps hTr
  have hd : decide ((300 : Int) < s.size) = false := by rw [decide_eq_false_iff_not]; omega
  rcases hcase with ⟨h0, rfl⟩ | ⟨h0, hb, rfl⟩ | ⟨h0, hb, rfl⟩
  all_goals
    go_enter Tryz.func14, Tryz.ntmps14
    go_wp2_with fail
    refine (cC _).mono ?_
    rintro e w1 ⟨g, cap, rfl, hg1, hg2, hcap, hc, hB1⟩
    have hzw : w.heap.size < w1.heap.size := by have := hB1.size; simp at this; omega
    obtain ⟨hcl, hfz⟩ := bcell hB1
    have f0 : ∀ o, w1.frozen? ⟨w.heap.size, o, none⟩ = false := fun o => (hfz w.heap.size o (by simp)).trans (by unfold World.frozen?; rw [(MapKept.heap_alloc w _).1]; simp)
    have k0 : ∀ o u, [Value.string ⟨#[]⟩, .string ⟨#[]⟩, .slice none 0 0, .slice none 0 0, .slice none 0 0][o]? = some u → w1.cell? ⟨w.heap.size, o, none⟩ = some u := fun o u hu => (hcl w.heap.size o (by simp)).trans (new_at w _ _ o u hu)
    have HC : Hid (∀ j (hj : j < ps.length), w1.cell? ⟨g, j, none⟩ = some (.string ps[j])) := hc
    have HB : Hid (Below w.heap.size w w1) := ((Below.refl _ w).alloc (Nat.le_refl _) _).trans (hB1.mono (by simp))
    clear hc cC hcl hfz hg1 hB1
    go_wp2
    go_loopw [6, 7] (fun i _ wr => ∃ (j : Nat) (p : M.Pk), i = .int .i64 j ∧ j ≤ ps.length ∧ PkAt wr w1.heap.size p ∧ PkOk p ∧ Below w1.heap.size w1 wr ∧ Hid (preL ps j p)) (fun i _ _ => ps.length - (intOf i).toNat)
    case atStart => exact ⟨0, M.emptyPk, rfl, Nat.zero_le _, PkAt.new _, emptyOk, (Below.refl _ w1).alloc (Nat.le_refl _) _, rfl⟩
    case round =>
      obtain ⟨j, p, rfl, hj, hPk, hOk, hBr, HR⟩ := hrel
      by_cases hlt : j < ps.length
      · have cj : wr.cell? ⟨g, j, none⟩ = some (.string ps[j]) := (hBr.cell (p := ⟨g, j, none⟩) hg2).trans (HC.out j hlt)
        have hpk : ps[j].size ≤ 100000 := HZ.out _ (List.getElem_mem hlt)
        have cL := line_any ps[j] j wr w1.heap.size p hPk hOk (by omega) hpk
        cases hli : M.lineS p j ps[j].data.toList with
        | none =>
          have HE2 : Hid (readB s = .inl (j + 1)) := by show _ = _; rw [HE.out, preL_no HR.out hlt hli]
          have HL : Hid (M.lineS p j ps[j].data.toList = none) := hli
          clear hli hPk hOk
          go_wp2_with fail
          refine cL.mono ?_
          rintro e w2 ⟨he, _, hB2⟩
          rw [HL.out] at he
          subst he
          clear cL
          have z : ∀ o u, [Value.string ⟨#[]⟩, .string ⟨#[]⟩, .slice none 0 0, .slice none 0 0, .slice none 0 0][o]? = some u → w2.cell? ⟨w.heap.size, o, none⟩ = some u := fun o u hu => (hB2.cell (p := ⟨w.heap.size, o, none⟩) hzw).trans ((hBr.cell (p := ⟨w.heap.size, o, none⟩) hzw).trans (k0 o u hu))
          have z0 := z 0 _ rfl
          have z1 := z 1 _ rfl
          have z2 := z 2 _ rfl
          have z3 := z 3 _ rfl
          have z4 := z 4 _ rfl
          have zf : ∀ o, w2.frozen? ⟨w.heap.size, o, none⟩ = false := fun o => (hB2.frozen (p := ⟨w.heap.size, o, none⟩) hzw).trans ((hBr.frozen (p := ⟨w.heap.size, o, none⟩) hzw).trans (f0 o))
          have HB3 : Hid (Below w.heap.size w w2) := (HB.out.trans (hBr.mono (Nat.le_of_lt hzw))).trans (hB2.mono (Nat.le_of_lt hzw))
          clear z k0 f0 cj
          go_wp2
          refine bodyPost_ret (v := .tuple #[.agg #[.string ⟨#[]⟩, .string ⟨#[]⟩, .slice none 0 0, .slice none 0 0, .slice none 0 0], .int .i64 (j + 1)]) (by simp [results, Tryz.results14, go_sem, z0, z1, z2, z3, z4]) rfl ⟨.agg #[.string ⟨#[]⟩, .string ⟨#[]⟩, .slice none 0 0, .slice none 0 0, .slice none 0 0], ?_, ?_, ⟨⟨#[]⟩, ⟨#[]⟩, none, 0, 0, none, 0, 0, none, 0, 0, rfl⟩, ?_⟩
          · rw [HE2.out]; rfl
          · intro p hp; rw [HE2.out] at hp; cases hp
          · exact ((((HB3.out.setCell (Nat.le_refl _) _).setCell (Nat.le_refl _) _).setCell (Nat.le_refl _) _).setCell (Nat.le_refl _) _).setCell (Nat.le_refl _) _
        | some q =>
          have HO2 : Hid (PkOk q) := lineS_ok hOk (by simpa using hpk) hli
          have HR2 : Hid (preL ps (j + 1) q) := preL_go HR.out hlt hli
          have HL : Hid (M.lineS p j ps[j].data.toList = some q) := hli
          clear hli hPk hOk
          go_wp2_with fail
          refine cL.mono ?_
          rintro e w2 ⟨he, hq, hB2⟩
          rw [HL.out] at he
          subst he
          have hPq := hq q HL.out
          clear hq cL
          go_wp2
          go_roundw
          case rel => exact ⟨j + 1, q, by go_num, by omega, hPq, HO2.out, hBr.trans hB2, HR2⟩
          case measure => simp [intOf]; omega
      · have hjj : j = ps.length := by omega
        have HE2 : Hid (readB s = .inr { p with files := M.sortF p.files }) := by
          have h := HR.out
          unfold preL at h
          rw [hjj, List.take_length] at h
          show _ = _
          rw [HE.out, h]
        obtain ⟨B, nv, bv, fv, hP⟩ := hPk
        have hf4 : p.files.length ≤ 4 := hOk.files
        have HK0 : Hid _ := k0
        have HF0 : Hid _ := f0
        obtain ⟨af, cf, ef⟩ := own_form hP.files
        obtain ⟨n, hn⟩ : ∃ n, p.files.length = n := ⟨_, rfl⟩
        rw [hn] at ef hf4
        subst ef
        have q4 := hP.c4
        have HP0 : Hid (PAt wr w1.heap.size B p nv bv (.slice af n cf)) := hP
        have HN : Hid (p.files.length = n) := hn
        clear hn hjj HE HR k0 f0 hP
        go_wp2
        go_loopw [8, 9, 10] (fun i _ _ wq => ∃ (a : Nat) (l : List M.Fl), i = .int .i64 a ∧ 1 ≤ a ∧ a ≤ n + 1 ∧ l.length = n ∧ PAt wq w1.heap.size B { p with files := l } nv bv (.slice af n cf) ∧ Below w1.heap.size w1 wq ∧ Hid (M.srt (n + 1 - a) a l = M.sortF p.files)) (fun i _ _ _ => n - (intOf i).toNat)
        case atStart => exact ⟨1, p.files, rfl, Nat.le_refl _, by omega, HN.out, HP0.out, hBr, by show _ = _; unfold M.sortF; rw [HN.out]; rfl⟩
        case round =>
          obtain ⟨a, l, rfl, ha1, ha2, hln, hPq, hBq, HS⟩ := hrel
          have c4 := hPq.c4
          by_cases han : a < n
          · obtain ⟨_, hz0, _⟩ | ⟨gf, capf, e, _, hgB, hgl, _⟩ := RowIn.own hPq.files
            · have : l.length = 0 := hz0
              omega
            · obtain ⟨rfl, -, rfl⟩ : af = some ⟨gf, 0, none⟩ ∧ True ∧ cf = capf := by cases e; exact ⟨rfl, trivial, rfl⟩
              clear e
              have HPQ : Hid _ := hPq
              clear hPq q4
              go_wp2
              go_loopw [9, 10] (fun kk _ wp => ∃ (b : Nat) (l' : List M.Fl), kk = .int .i64 b ∧ b ≤ a ∧ l'.length = n ∧ PAt wp w1.heap.size B { p with files := l' } nv bv (.slice (some ⟨gf, 0, none⟩) n cf) ∧ Below w1.heap.size w1 wp ∧ Hid (M.bub b l' = M.bub a l)) (fun kk _ _ => (intOf kk).toNat)
              case atStart => exact ⟨a, l, rfl, Nat.le_refl _, hln, HPQ.out, hBq, rfl⟩
              case round =>
                obtain ⟨b, l', rfl, hba, hl', hPp, hBp, HBu⟩ := hrel
                have c4' := hPp.c4
                cases b with
                | zero =>
                  have HL : Hid (l' = M.bub a l) := HBu.out
                  go_wp2
                  go_quiet (fail)
                  go_wp2
                  go_roundw
                  case rel => exact ⟨a + 1, l', by go_num, by omega, by omega, hl', hPp.below (below_same _ _), hBp.trans ((below_same _ _).mono hBp.size), by show _ = _; rw [HL.out, ← HS.out, show n + 1 - a = (n + 1 - (a + 1)) + 1 by omega, srt_go (by omega)]⟩
                  case measure => simp [intOf]; omega
                | succ b =>
                  have hb1 : b + 1 < l'.length := by omega
                  obtain ⟨X0, hX0⟩ : ∃ X : ByteArray, X = ⟨l'[b].path.toArray⟩ := ⟨_, rfl⟩
                  obtain ⟨X1, hX1⟩ : ∃ X : ByteArray, X = ⟨l'[b].content.toArray⟩ := ⟨_, rfl⟩
                  obtain ⟨Y0, hY0⟩ : ∃ X : ByteArray, X = ⟨l'[b + 1].path.toArray⟩ := ⟨_, rfl⟩
                  obtain ⟨Y1, hY1⟩ : ∃ X : ByteArray, X = ⟨l'[b + 1].content.toArray⟩ := ⟨_, rfl⟩
                  have cx0 : wr.cell? ⟨gf, b * 2, none⟩ = some (.string X0) := by rw [hX0]; exact (hPp.fcell b (show b < l'.length by omega)).1
                  have cx1 : wr.cell? ⟨gf, b * 2 + 1, none⟩ = some (.string X1) := by rw [hX1]; exact (hPp.fcell b (show b < l'.length by omega)).2
                  have cy0 : wr.cell? ⟨gf, (b + 1) * 2, none⟩ = some (.string Y0) := by rw [hY0]; exact (hPp.fcell (b + 1) hb1).1
                  have cy1 : wr.cell? ⟨gf, (b + 1) * 2 + 1, none⟩ = some (.string Y1) := by rw [hY1]; exact (hPp.fcell (b + 1) hb1).2
                  have ff := hPp.ffz hl'
                  have hgl' : gf < wr.heap.size := (hPp.files.lt gf rfl).2
                  have hgp : gf ≠ w1.heap.size := by have := (hPp.files.lt gf rfl).1; have := hPp.lt; omega
                  have hpl : w1.heap.size < wr.heap.size := Nat.lt_of_lt_of_le hPp.lt hPp.le
                  have HX0 : Hid (X0 = ⟨l'[b].path.toArray⟩) := hX0
                  have HX1 : Hid (X1 = ⟨l'[b].content.toArray⟩) := hX1
                  have HY0 : Hid (Y0 = ⟨l'[b + 1].path.toArray⟩) := hY0
                  have HY1 : Hid (Y1 = ⟨l'[b + 1].content.toArray⟩) := hY1
                  have hless : Op.bytesLess Y0.toList X0.toList = Op.bytesLess l'[b + 1].path l'[b].path := by rw [Lib.toList_data, Lib.toList_data, hX0, hY0]
                  have HPp : Hid _ := hPp
                  clear hX0 hX1 hY0 hY1 hPp
                  by_cases hls : Op.bytesLess Y0.toList X0.toList = true
                  · have HB2 : Hid (M.bub b (M.swapAt l' b) = M.bub a l) := by show _ = _; rw [← HBu.out, bub_less hb1 (by rw [← hless]; exact hls)]
                    clear hless HBu
                    go_wp2
                    go_quiet (fail)
                    generalize hW : wr.drewN nq = W
                    have dx0 : W.cell? ⟨gf, b * 2, none⟩ = some (.string X0) := by rw [← hW]; exact cx0
                    have dx1 : W.cell? ⟨gf, b * 2 + 1, none⟩ = some (.string X1) := by rw [← hW]; exact cx1
                    have dy0 : W.cell? ⟨gf, (b + 1) * 2, none⟩ = some (.string Y0) := by rw [← hW]; exact cy0
                    have dy1 : W.cell? ⟨gf, (b + 1) * 2 + 1, none⟩ = some (.string Y1) := by rw [← hW]; exact cy1
                    have d4 : W.cell? ⟨w1.heap.size, 4, none⟩ = some (.slice (some ⟨gf, 0, none⟩) n cf) := by rw [← hW]; exact c4'
                    have dff : ∀ o, W.frozen? ⟨gf, o, none⟩ = false := by rw [← hW]; exact ff
                    have dgl : gf < W.heap.size := by rw [← hW]; exact hgl'
                    have dpl : w1.heap.size < W.heap.size := by rw [← hW]; exact hpl
                    have HPW : Hid (PAt W w1.heap.size B { p with files := l' } nv bv (.slice (some ⟨gf, 0, none⟩) n cf)) := by rw [← hW]; exact HPp.out.below (below_same _ _)
                    have HBW : Hid (Below w1.heap.size w1 W) := by rw [← hW]; exact hBp.trans ((below_same _ _).mono hBp.size)
                    clear hW cx0 cx1 cy0 cy1 c4' ff hgl' hpl HPp hBp c4 hgl
                    have hwg : w1.heap.size ≤ gf := by have := (HPW.out.files.lt gf rfl).1; have := HPW.out.lt; omega
                    go_wp2
                    go_region
                    all_goals
                      go_wp2
                      go_roundw
                      case rel =>
                        refine ⟨b, M.swapAt l' b, rfl, by omega, by rw [M.swapAt_len]; exact hl', ?_, ?_, HB2⟩
                        · exact (HPW.out.swap (Below.refl _ _) hl' hb1 _ _ _ _ (by rw [HX0.out]; rfl) (by rw [HX1.out]; rfl) (by rw [HY0.out]; rfl) (by rw [HY1.out]; rfl)).below ((Below.refl _ _).alloc (Nat.le_refl _) _).drew
                        · exact (((((HBW.out.setCell hwg _).setCell hwg _).setCell hwg _).setCell hwg _).alloc (by rw [size_set, size_set, size_set, size_set]; omega) _).drew
                      case measure => simp [intOf]
                  · have hls' : Op.bytesLess Y0.toList X0.toList = false := by simpa using hls
                    have HL : Hid (l' = M.bub a l) := by show _ = _; rw [← HBu.out, bub_stop hb1 (by rw [← hless]; exact hls')]
                    clear hless hls HBu
                    go_wp2
                    go_quiet (fail)
                    go_wp2
                    go_roundw
                    case rel => exact ⟨a + 1, l', by go_num, by omega, by omega, hl', HPp.out.below (below_same _ _), hBp.trans ((below_same _ _).mono hBp.size), by show _ = _; rw [HL.out, ← HS.out, show n + 1 - a = (n + 1 - (a + 1)) + 1 by omega, srt_go (by omega)]⟩
                    case measure => simp [intOf]; omega
          · have HL : Hid (l = M.sortF p.files) := by show _ = _; rw [← HS.out, srt_stop (by omega)]
            have hw1 : w1.heap.size < wr.heap.size := Nat.lt_of_lt_of_le hPq.lt hPq.le
            have p0 := hPq.c0
            have p1 := hPq.c1
            have p2 := hPq.c2
            have p3 := hPq.c3
            have z : ∀ o u, [Value.string ⟨#[]⟩, .string ⟨#[]⟩, .slice none 0 0, .slice none 0 0, .slice none 0 0][o]? = some u → wr.cell? ⟨w.heap.size, o, none⟩ = some u := fun o u hu => (hBq.cell (p := ⟨w.heap.size, o, none⟩) hzw).trans (HK0.out o u hu)
            have z0 := z 0 _ rfl
            have z1 := z 1 _ rfl
            have z2 := z 2 _ rfl
            have z3 := z 3 _ rfl
            have z4 := z 4 _ rfl
            have zf : ∀ o, wr.frozen? ⟨w.heap.size, o, none⟩ = false := fun o => (hBq.frozen (p := ⟨w.heap.size, o, none⟩) hzw).trans (HF0.out o)
            obtain ⟨an, cn, en⟩ := hPq.needs.form
            obtain ⟨ab, cb, eb⟩ := hPq.bars.form
            have HEN : Hid (nv = .slice an p.needs.length cn) := en
            have HEB : Hid (bv = .slice ab p.bars.length cb) := eb
            have HPQ : Hid (PAt wr w1.heap.size B { p with files := l } nv bv (.slice af n cf)) := hPq
            have HBF : Hid (Below w.heap.size w wr) := HB.out.trans (hBq.mono (Nat.le_of_lt hzw))
            rw [en] at p2
            rw [eb] at p3
            clear z en eb hPq q4
            go_wp2
            refine bodyPost_ret (v := .tuple #[.agg #[.string ⟨p.name.toArray⟩, .string ⟨p.ver.toArray⟩, .slice an p.needs.length cn, .slice ab p.bars.length cb, .slice af n cf], .int .i64 (-1)]) (by simp [results, Tryz.results14, go_sem, z0, z1, z2, z3, z4]) rfl ⟨.agg #[.string ⟨p.name.toArray⟩, .string ⟨p.ver.toArray⟩, .slice an p.needs.length cn, .slice ab p.bars.length cb, .slice af n cf], ?_, ?_, ⟨_, _, _, _, _, _, _, _, _, _, _, rfl⟩, ?_⟩
            · rw [HE2.out]; rfl
            · intro q hq
              rw [HE2.out] at hq
              cases hq
              have h := HPQ.out
              rw [HL.out] at h
              exact h.val5 (by omega) HEN.out HEB.out _ _ _ _ _
            · exact ((((HBF.out.setCell (Nat.le_refl _) _).setCell (Nat.le_refl _) _).setCell (Nat.le_refl _) _).setCell (Nat.le_refl _) _).setCell (Nat.le_refl _) _
theorem refRead_any (s : ByteArray) (w : World) (h : s.size ≤ 1000000) :
    Calls Tryz.prog 14 #[.string s] w (ReadPost s w) := by
  by_cases h3 : 300 < s.size
  · exact read_long s w h3 h
  · by_cases h0 : 0 < s.size
    · by_cases hb : (s[s.size - 1].toNat : Int) = 10
      · exact read_lines s _ w (by omega) (ext_size s 0 (s.size - 1)) (trim_1 s h0 hb) (.inr (.inl ⟨h0, by simpa using hb, rfl⟩))
      · exact read_lines s s w (by omega) (Nat.le_refl _) (trim_2 s h0 hb) (.inr (.inr ⟨h0, by simpa using hb, rfl⟩))
    · exact read_lines s s w (by omega) (Nat.le_refl _) (trim_0 s (by omega)) (.inl ⟨by omega, rfl⟩)
end Go.Proofs.YtgnfknjopafngaaGreatDoor
