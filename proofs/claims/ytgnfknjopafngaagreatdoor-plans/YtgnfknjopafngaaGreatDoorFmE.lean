import Derived.Test.YtgnfknjopafngaaGreatDoorFmD
import Derived.Deep.RegionLaw
/-
  THE DOCUMENT's ANSWER, WALKED: line: a file.
-/
namespace Go.Proofs.YtgnfknjopafngaaGreatDoor
open Go.RowKit

theorem infoFl : (Tryz.prog.info? 74).map (fun i => (i.zero, i.size, i.bytes)) = some (some (.agg #[.string ⟨#[]⟩, .string ⟨#[]⟩]), 2, 32) := by kernel_rfl

/-- append onto a row of the call's own, as one step of a region that draws. -/
theorem step_append_own {P : Program} {ops : Array Oper} {o : Oper} {a : Act} {w : World} {K : Act → World → Prop} {Q : Exit → Act → World → Prop} {E : Prop} (hgd : o.guard = none) (s x : Operand) (t : TypeId)
    (ho : o.op = .call { callee := .builtin .append, args := #[s, x], argTypes := #[t, t] })
    (base : Nat) (e : TypeId) (i : TypeInfo) (z : Value) (size bytes : Nat) (ht : P.underlying t = some (.slice e)) (hi : P.info? e = some i) (hz : i.zero = some z)
    (hsize : i.size = size) (hby : i.bytes = bytes) (hzs : z.cells.size = size) (hsz : 0 < size)
    (v : Value) (n : Nat) (xs : List Value) (hs : a.eval s = v) (hown : w.ownsRow base e size v n xs)
    (ad : Addr) (m c : Nat) (news : List Value) (hx : a.eval x = .slice (some ad) m c) (hl : news.length = m * size) (hnews : ∀ j u, news[j]? = some u → w.cell? (ad.add j) = some u) (h1 : ∀ u ∈ news, u.oneCell' = true)
    (h63 : n + m ≤ maxLen) (hbytes : (n + m) * bytes ≤ 140737488355328) (hbase : base ≤ w.heap.size)
    (h : ∀ v' w', w'.ownsRow base e size v' (n + m) (xs ++ news) → w.grownBy w' v.ownBlock → (v' = .slice none 0 0 ↔ v = .slice none 0 0 ∧ m = 0) → K (a.put o.dst v') w') :
    if Region.wanted o (yielded ops a.tmps) = true then Oper.wp P o a w K Q else E := by
  rw [if_pos (by simp [Region.wanted, hgd])]
  exact wp_append_own _ s x t ho base e i z size bytes ht hi hz hsize hby hzs hsz v n xs hs hown ad m c news hx hl hnews h1 h63 hbytes hbase h

theorem all_take {α : Type} (f : α → Bool) (l : List α) (k : Nat) (hk : k < l.length) : (l.take (k + 1)).all f = ((l.take k).all f && f l[k]) := by
  rw [List.take_add_one, List.getElem?_eq_getElem hk, List.all_append]; simp

/-- The path of the k-th file. -/
theorem fl_cell {l : List M.Fl} {k : Nat} (hk : k < l.length) : (flsCells l)[2 * k]? = some (strV l[k].path) := by
  induction l generalizing k with
  | nil => simp at hk
  | cons f l ih =>
    cases k with
    | zero => simp [flsCells, flCells]
    | succ k =>
      have := ih (k := k) (by simpa using hk)
      simp only [flsCells, List.flatMap_cons, flCells] at this ⊢
      rw [show 2 * (k + 1) = 2 * k + 1 + 1 by omega]
      simpa using this

theorem grown_keep {wx w2 : World} {row : Option Nat} (hg : wx.grownBy w2 row) (b : Nat) (hb : b < wx.heap.size) (hne : some b ≠ row) :
    ∀ o, w2.cell? ⟨b, o, none⟩ = wx.cell? ⟨b, o, none⟩ ∧ w2.frozen? ⟨b, o, none⟩ = wx.frozen? ⟨b, o, none⟩ := fun o =>
  ⟨World.cell?_of_block (w := wx) (a := ⟨b, o, none⟩) (hg.block b hb hne), World.frozen?_of_block (w := wx) (a := ⟨b, o, none⟩) (hg.block b hb hne)⟩
/-- Behind the append onto the files' row: the package's cells, and what does not lead to the files. -/
theorem PAt.grown {w wx w2 : World} {pb B : Nat} {p : M.Pk} {nv bv fv : Value} (h : PAt w pb B p nv bv fv) (hb : Below w.heap.size w wx) (hg : wx.grownBy w2 fv.ownBlock) :
    (∀ g o, g < B → w2.cell? ⟨g, o, none⟩ = w.cell? ⟨g, o, none⟩ ∧ w2.frozen? ⟨g, o, none⟩ = w.frozen? ⟨g, o, none⟩) ∧ w.heap.size ≤ w2.heap.size := by
  have hz := hb.size
  have hz2 := hg.size
  refine ⟨fun g o hgB => ?_, by omega⟩
  have hl := h.le
  have k := grown_keep hg g (by omega) (fun e => by have := (h.files.lt g e.symm).1; omega) o
  exact ⟨k.1.trans (hb.cell (p := ⟨g, o, none⟩) (by show g < _; omega)), k.2.trans (hb.frozen (p := ⟨g, o, none⟩) (by show g < _; omega))⟩
theorem PAt.files' {w wx w2 : World} {pb B : Nat} {p : M.Pk} {nv bv fv v' : Value} {X Y : ByteArray} (h : PAt w pb B p nv bv fv) (hb : Below w.heap.size w wx) (hg : wx.grownBy w2 fv.ownBlock)
    (ho : w2.ownsRow B 74 2 v' (p.files.length + 1) (flsCells p.files ++ [.string X, .string Y])) :
    PAt (w2.setCell ⟨pb, 4, none⟩ v') pb B { p with files := p.files ++ [⟨X.data.toList, Y.data.toList⟩] } nv bv v' := by
  obtain ⟨hk, hz⟩ := h.grown hb hg
  have hlt := h.lt
  have kk : ∀ g o, pb + 1 ≤ g → g < B → (w2.setCell ⟨pb, 4, none⟩ v').cell? ⟨g, o, none⟩ = w.cell? ⟨g, o, none⟩ := fun g o hg' hgB => (cell_set_block _ _ _ _ _ _ (by omega)).trans (hk g o hgB).1
  refine ⟨?_, ?_, ?_, ?_, ?_, fun o => ?_, hlt, by rw [size_set]; exact Nat.le_trans h.le hz, h.needs.keep kk, h.bars.keep kk, ?_, h.nnil, fun e => by simp at e⟩
  · rw [cell_set_off _ _ _ _ _ (by decide), (hk pb 0 hlt).1]; exact h.c0
  · rw [cell_set_off _ _ _ _ _ (by decide), (hk pb 1 hlt).1]; exact h.c1
  · rw [cell_set_off _ _ _ _ _ (by decide), (hk pb 2 hlt).1]; exact h.c2
  · rw [cell_set_off _ _ _ _ _ (by decide), (hk pb 3 hlt).1]; exact h.c3
  · rw [World.cell?_setCell_same _ _ _ ((hk pb 4 hlt).1.trans h.c4)]
  · rw [World.frozen?_setCell, (hk pb o hlt).2]; exact h.fz o
  · have e : flsCells (p.files ++ [M.Fl.mk X.data.toList Y.data.toList]) = flsCells p.files ++ [.string X, .string Y] := flsCells_snoc _ _
    show World.ownsRow _ _ _ _ _ (p.files ++ [M.Fl.mk X.data.toList Y.data.toList]).length (flsCells (p.files ++ [M.Fl.mk X.data.toList Y.data.toList]))
    rw [e]
    exact ownsRow_setCell_below (by simpa using ho) hlt _

theorem fileEnd {F : Option M.Fl} {X Y : List UInt8} {p : M.Pk} {okb b : Bool} {r : Option M.Pk}
    (hr : r = (match F with | none => none | some f => if p.files.all (M.apart f) = true then some { p with files := p.files ++ [f] } else none)) (hF : flB F X Y) (ho : F.isSome = okb) (hb : b = (okb && p.files.all (M.apart ⟨X, Y⟩))) :
    r.isSome = b ∧ (∀ p', r = some p' → p' = { p with files := p.files ++ [⟨X, Y⟩] }) := by
  cases F with
  | none => simp at ho; subst ho hb hr; exact ⟨rfl, fun p' h => by cases h⟩
  | some f =>
    obtain ⟨h1, h2⟩ := hF f rfl
    obtain rfl : f = ⟨X, Y⟩ := by cases f; cases h1; cases h2; rfl
    simp at ho
    subst ho
    simp only [Bool.true_and] at hb
    subst hr hb
    by_cases ha : p.files.all (M.apart ⟨X, Y⟩) = true
    · simp only [ha, if_true]; exact ⟨rfl, fun p' h => by cases h; rfl⟩
    · rw [Bool.not_eq_true] at ha
      simp [ha]

set_option maxRecDepth 100000 in
set_option maxHeartbeats 2000000 in
theorem line_file (s : ByteArray) (k : Nat) (w : World) (pb B : Nat) (p : M.Pk) (nv bv fv : Value) (hP : PAt w pb B p nv bv fv) (hk : 0 < k) (hk2 : k ≤ 1000000) (hl : s.size ≤ 100000)
    (h3 : M.begins s.data.toList M.fileW = true) (h4 : p.files.length < 4) (hps : ∀ f ∈ p.files, f.path.length ≤ 1000000) :
    Calls Tryz.prog 37 #[.pointer (some ⟨pb, 0, none⟩), .int .i64 k, .string s] w (LinePost s k pb p w) := by
  obtain ⟨i0, hi0, hz0, hz1, hz2⟩ := info_parts infoFl
  have b1 : beginsB s needsT = false := excl h3 (by decide)
  have b2 : beginsB s barsT = false := excl h3 (by decide)
  have b3 : beginsB s fileT = true := h3
  have hs5 : 5 ≤ s.size := by unfold M.begins at h3; simp [M.fileW] at h3; omega
  have HE : Hid (M.lineS p k s.data.toList = (match fileB (s.extract 5 s.size) with | none => none | some f => if p.files.all (M.apart f) = true then some { p with files := p.files ++ [f] } else none)) := by
    show _ = _
    unfold M.lineS fileB
    rw [if_neg (by omega), if_neg (fun h => by rw [show M.begins s.data.toList M.needsW = false from b1] at h; exact absurd h.1 (by decide)), if_neg (fun h => by rw [show M.begins s.data.toList M.barsW = false from b2] at h; exact absurd h.1 (by decide)), if_pos ⟨h3, h4⟩, ext_from]
    cases M.fileS (s.data.toList.drop 5) <;> rfl
  have hk0 : ((k : Int) == 0) = false := by rw [beq_eq_false_iff_ne]; omega
  have HPS : Hid (∀ f ∈ p.files, f.path.length ≤ 1000000) := hps
  obtain ⟨an, cn, en⟩ := hP.needs.form
  obtain ⟨ab, cb, eb⟩ := hP.bars.form
  obtain ⟨af, cf, ef⟩ := own_form hP.files
  subst en eb ef
  clear h3 hps
  have q2 := hP.c2
  have q3 := hP.c3
  have q4 := hP.c4
  have cB := fun wx t => begins_any s t wx
  have cF := fun wx => file_any (s.extract 5 s.size) wx (by have := ext_size s 5 s.size; omega)
  go_enter Tryz.func37, Tryz.ntmps37
  go_wp2_with fail
  refine (cB _ needsT).mono ?_
  rintro e w' ⟨rfl, rfl⟩
  go_wp2_with fail
  refine (cB _ barsT).mono ?_
  rintro e w' ⟨rfl, rfl⟩
  go_wp2_with fail
  refine (cB _ fileT).mono ?_
  rintro e w' ⟨rfl, rfl⟩
  go_wp2
  go_quiet (fail)
  go_wp2
  go_quiet (fail)
  go_wp2_with fail
  refine (cF _).mono ?_
  rintro e w1 ⟨X, Y, rfl, hXY, hXs, hB1⟩
  have hXs' : X.size ≤ 1000000 := by have := ext_size s 5 s.size; omega
  clear hXs
  have hQ := (hP.below (below_same w' _)).below hB1
  have HQ : Hid (PAt w1 pb B p _ _ _) := hQ
  have r4 := hQ.c4
  have rf := hQ.fz
  have hpw : pb < w1.heap.size := Nat.lt_of_lt_of_le hQ.lt hQ.le
  have hown := hQ.files
  clear hQ q2 q3 q4 cB cF
  have HXY : Hid (flB (fileB (s.extract 5 s.size)) X.data.toList Y.data.toList) := hXY
  clear hXY
  obtain ⟨okb, HO⟩ : ∃ okb, Hid ((fileB (s.extract 5 s.size)).isSome = okb) := ⟨_, rfl⟩
  rw [HO.out]
  go_wp2
  go_loopw [20, 21, 22, 23] (fun o i _ _ wr => ∃ (n j : Nat) (b : Bool), o = .bool b ∧ i = .int .i64 j ∧ j ≤ p.files.length ∧ wr = (w1.alloc (.cells #[.string X, .string Y] 74)).drewN n ∧ Hid (b = (okb && (p.files.take j).all (M.apart ⟨X.data.toList, Y.data.toList⟩)))) (fun _ i _ _ _ => p.files.length - (intOf i).toNat)
  case atStart => exact ⟨0, 0, okb, rfl, rfl, Nat.zero_le _, rfl, by show _ = _; simp⟩
  case round =>
    obtain ⟨n, j, b, rfl, rfl, hj, rfl, HBb⟩ := hrel
    by_cases hlt : j < p.files.length
    · have hrow := RowIn.own hown
      obtain ⟨_, h0, _⟩ | ⟨g, cap, e, _, hgB, hg, hcells⟩ := hrow
      · omega
      · obtain ⟨rfl, -, rfl⟩ : af = some ⟨g, 0, none⟩ ∧ True ∧ cf = cap := by cases e; exact ⟨rfl, trivial, rfl⟩
        have cg : w1.cell? ⟨g, j * 2, none⟩ = some (.string ⟨p.files[j].path.toArray⟩) := hcells _ _ (by rw [Nat.mul_comm]; exact fl_cell hlt)
        have hGs : (ByteArray.mk p.files[j].path.toArray).size ≤ 1000000 := HPS.out _ (List.getElem_mem hlt)
        have HAT := all_take (M.apart ⟨X.data.toList, Y.data.toList⟩) p.files j hlt
        replace HAT : Hid _ := HAT
        obtain ⟨G, hG⟩ : ∃ G : ByteArray, G = ⟨p.files[j].path.toArray⟩ := ⟨_, rfl⟩
        have HG : Hid (p.files[j].path = G.data.toList) := by show _ = _; rw [hG]
        rw [← hG] at cg hGs
        clear hG e hcells
        have cO1 := fun wx => over_any X G wx hXs'
        have cO2 := fun wx => over_any G X wx hGs
        have HAP : Hid (M.apart ⟨X.data.toList, Y.data.toList⟩ p.files[j] = (!overB X G && !overB G X && !(X.toList == G.toList))) := by
          show _ = _; unfold M.apart overB; rw [HG.out, Lib.toList_data, Lib.toList_data]
        have hcase : ∃ r : Bool, Hid (r = (b && M.apart ⟨X.data.toList, Y.data.toList⟩ p.files[j])) ∧ ((b = false ∧ r = false) ∨ (b = true ∧ overB X G = true ∧ r = false) ∨ (b = true ∧ overB X G = false ∧ overB G X = true ∧ r = false) ∨
            (b = true ∧ overB X G = false ∧ overB G X = false ∧ (X.toList == G.toList) = true ∧ r = false) ∨ (b = true ∧ overB X G = false ∧ overB G X = false ∧ (X.toList == G.toList) = false ∧ r = true)) := by
          refine ⟨b && (!overB X G && !overB G X && !(X.toList == G.toList)), by show _ = _; rw [HAP.out], ?_⟩
          cases b <;> cases overB X G <;> cases overB G X <;> cases (X.toList == G.toList) <;> simp
        obtain ⟨r, HRr, hcase⟩ := hcase
        have HN : Hid (r = (okb && (p.files.take (j + 1)).all (M.apart ⟨X.data.toList, Y.data.toList⟩))) := by
          show _ = _; rw [HRr.out, HBb.out, HAT.out, Bool.and_assoc]
        clear HRr HBb HAT HAP
        rcases hcase with ⟨rfl, rfl⟩ | ⟨rfl, o1, rfl⟩ | ⟨rfl, o1, o2, rfl⟩ | ⟨rfl, o1, o2, o3, rfl⟩ | ⟨rfl, o1, o2, o3, rfl⟩
        all_goals
          go_wp2
          go_quiet ((go_at_call 64; go_must (exact quiet_add (cO1 _))))
          go_wp2
          go_quiet ((go_at_call 64; go_must (exact quiet_add (cO2 _))))
          go_wp2
          go_quiet (fail)
          go_wp2
          go_roundw
          case rel => exact ⟨_, j + 1, _, rfl, by go_num, by omega, by first | exact drewN_add _ _ _ | rfl, HN⟩
          case measure => simp [intOf]; omega
    · have HA : Hid (b = (okb && p.files.all (M.apart ⟨X.data.toList, Y.data.toList⟩))) := by
        show _ = _; rw [HBb.out, List.take_of_length_le (by omega)]
      clear HBb
      have hBl : B ≤ w1.heap.size := HQ.out.le
      have hpB : pb < B := HQ.out.lt
      have HPQ : Hid (∀ wx w2 v', Below w1.heap.size w1 wx → wx.grownBy w2 (Value.slice af p.files.length cf).ownBlock → w2.ownsRow B 74 2 v' (p.files.length + 1) (flsCells p.files ++ [.string X, .string Y]) →
          PAt (w2.setCell ⟨pb, 4, none⟩ v') pb B { p with files := p.files ++ [⟨X.data.toList, Y.data.toList⟩] } (.slice an p.needs.length cn) (.slice ab p.bars.length cb) v') := fun wx w2 v' a b c => PAt.files' HQ.out a b c
      have HPG : Hid (∀ wx w2, Below w1.heap.size w1 wx → wx.grownBy w2 (Value.slice af p.files.length cf).ownBlock → w2.cell? ⟨pb, 4, none⟩ = some (.slice af p.files.length cf) ∧ (∀ o, w2.frozen? ⟨pb, o, none⟩ = false)) := fun wx w2 a b => by
        obtain ⟨hk, _⟩ := HQ.out.grown a b
        exact ⟨(hk pb 4 hpB).1.trans HQ.out.c4, fun o => (hk pb o hpB).2.trans (HQ.out.fz o)⟩
      have HBL : Hid (∀ wx w2, Below pb w1 wx → wx.grownBy w2 (Value.slice af p.files.length cf).ownBlock → w1.heap.size ≤ wx.heap.size → Below pb w1 w2) := fun wx w2 a b c => a.grown b (by omega) (fun j hj => by have := (hown.lt j hj).1; omega)
      have HBX : Hid (∀ m, Below w1.heap.size w1 (((w1.alloc (.cells #[.string X, .string Y] 74)).drewN m).alloc (.cells #[.string X, .string Y] 74))) := fun m =>
        (below_drewN ((Below.refl _ w1).alloc (Nat.le_refl _) _) m).alloc (by simp) _
      go_wp2
      go_region_law (refine step_append_own rfl (.tmp 224) (.tmp 226) 28 rfl B 74 i0 (.agg #[.string ⟨#[]⟩, .string ⟨#[]⟩]) 2 32 Tryz.underlying28 hi0 hz0 hz1 hz2 rfl (by decide) _ _ _ (by simp [Act.eval]; rfl) (by exact (hown.alloc _).alloc _) ⟨w1.heap.size + 1, 0, none⟩ 1 1 [.string X, .string Y] (by simp [Act.eval]) rfl (new_cells2 w1 _ [.string X, .string Y] _) (by intro u hu; simp at hu; rcases hu with rfl | rfl <;> rfl) (by unfold maxLen; omega) (by omega) (by simp; omega) ?_; intro v' w2 hown' hgrow _; have s5 := HPG.out _ _ (HBX.out _) hgrow; have HPQ3 : Hid _ := HPQ.out _ _ _ (HBX.out _) hgrow hown'; have HBL2 : Hid (Below pb w1 w2) := HBL.out _ _ ((HBX.out _).mono (Nat.le_of_lt hpw)) hgrow (HBX.out _).size; obtain ⟨av, cv, ev⟩ := own_form hown'; subst ev; obtain ⟨s4, sf⟩ := s5)
      all_goals
        go_wp2
        go_ret
        obtain ⟨e1, e2⟩ := fileEnd HE.out HXY.out HO.out HA.out
        refine ⟨ret_bool e1.symm, fun p' hp' => ?_, ?_⟩
        · rw [e2 p' hp']; exact ⟨_, _, _, _, HPQ3.out⟩
        · exact (((below_same w' _).mono (Nat.le_of_lt (Nat.lt_of_lt_of_le hP.lt hP.le))).trans ((hB1.mono (Nat.le_of_lt (Nat.lt_of_lt_of_le hP.lt hP.le))).trans HBL2.out)).setCell (Nat.le_refl _) _
end Go.Proofs.YtgnfknjopafngaaGreatDoor
/-
  THE DOCUMENT's ANSWER, WALKED: line: needs; every line.
-/
namespace Go.Proofs.YtgnfknjopafngaaGreatDoor
open Go.RowKit

theorem infoChs : (Tryz.prog.info? 27).map (fun i => (i.zero, i.size, i.bytes)) = some (some (.slice none 0 0), 1, 24) := by kernel_rfl

/-- Two rows of one world whose elements' types differ do not share a block. -/
theorem own_apart {w : World} {B B' e e' size size' n n' : Nat} {v u : Value} {xs ys : List Value} (h : w.ownsRow B e size v n xs) (k : w.ownsRow B' e' size' u n' ys) (he : e ≠ e') : u.ownBlock = none ∨ u.ownBlock ≠ v.ownBlock := by
  obtain ⟨_, ⟨rfl, _⟩ | ⟨g, cap, cur, rfl, _, hg, _⟩⟩ := k
  · exact .inl rfl
  · right
    obtain ⟨_, ⟨rfl, _⟩ | ⟨g', cap', cur', rfl, _, hg', _⟩⟩ := h
    · simp [Value.ownBlock]
    · intro e1
      have e2 : g = g' := by simpa [Value.ownBlock] using e1
      subst e2
      rw [hg] at hg'
      simp at hg'
      exact he hg'.2.symm

/-- The groups that were read, in memory. -/
def GroupsAt (w : World) (B : Nat) (v : Value) (ls : List (List M.Ch)) : Prop :=
  ∃ vs : List Value, w.ownsRow B 27 1 v ls.length vs ∧ ∀ (i : Nat) x, ls[i]? = some x → ∃ u, vs[i]? = some u ∧ w.ownsRow B 125 3 u x.length (chsCells x)
theorem GroupsAt.nil (w : World) (B : Nat) : GroupsAt w B (.slice none 0 0) [] := ⟨[], World.ownsRow_nil _ _ _ _, fun i x h => by simp at h⟩
theorem GroupsAt.below {w w' : World} {B : Nat} {v : Value} {ls : List (List M.Ch)} (h : GroupsAt w B v ls) (hb : Below w.heap.size w w') : GroupsAt w' B v ls := by
  obtain ⟨vs, h1, h2⟩ := h
  exact ⟨vs, own_below h1 hb, fun i x hx => by obtain ⟨u, a, b⟩ := h2 i x hx; exact ⟨u, a, own_below b hb⟩⟩
theorem GroupsAt.set {w : World} {B b o : Nat} {v x : Value} {ls : List (List M.Ch)} (h : GroupsAt w B v ls) (hb : b < B) : GroupsAt (w.setCell ⟨b, o, none⟩ x) B v ls := by
  obtain ⟨vs, h1, h2⟩ := h
  exact ⟨vs, ownsRow_setCell_below h1 hb _, fun i y hy => by obtain ⟨u, a, c⟩ := h2 i y hy; exact ⟨u, a, ownsRow_setCell_below c hb _⟩⟩
theorem GroupsAt.needs {w : World} {B lo : Nat} {v : Value} {ls : List (List M.Ch)} (h : GroupsAt w B v ls) (hl : lo ≤ B) : NeedsIn w lo w.heap.size v ls := by
  obtain ⟨vs, h1, h2⟩ := h
  refine ⟨vs, (RowIn.own h1).wide hl (Nat.le_refl _), by have := h1.1; omega, fun i x hx => ?_⟩
  obtain ⟨u, a, b⟩ := h2 i x hx
  exact ⟨u, a, (RowIn.own b).wide hl (Nat.le_refl _)⟩
/-- One group more. -/
theorem GroupsAt.push {w w1 : World} {B : Nat} {v v' u : Value} {ls : List (List M.Ch)} {l : List M.Ch} {vs : List Value} {o : Obj} (h1 : w.ownsRow B 27 1 v ls.length vs)
    (h2 : ∀ (i : Nat) x, ls[i]? = some x → ∃ u, vs[i]? = some u ∧ w.ownsRow B 125 3 u x.length (chsCells x))
    (hu : w.ownsRow B 125 3 u l.length (chsCells l)) (ho : w1.ownsRow B 27 1 v' (ls.length + 1) (vs ++ [u])) (hg : (w.alloc o).grownBy w1 v.ownBlock) : GroupsAt w1 B v' (ls ++ [l]) := by
  have keep : ∀ {x : Value} {n : Nat} {ys : List Value}, w.ownsRow B 125 3 x n ys → w1.ownsRow B 125 3 x n ys := fun hx =>
    (hx.alloc o).kept hg (own_apart h1 hx (by decide))
  have hl : vs.length = ls.length := by have := h1.1; omega
  refine ⟨vs ++ [u], by simpa using ho, fun i x hx => ?_⟩
  by_cases hi : i < ls.length
  · rw [List.getElem?_append_left hi] at hx
    obtain ⟨y, a, b⟩ := h2 i x hx
    exact ⟨y, by rw [List.getElem?_append_left (by omega)]; exact a, keep b⟩
  · rw [List.getElem?_append_right (by omega)] at hx
    have hi0 : i - ls.length = 0 := by
      by_cases e : i - ls.length = 0
      · exact e
      · rw [List.getElem?_eq_none (by simp; omega)] at hx; cases hx
    rw [hi0] at hx
    simp at hx
    subst hx
    exact ⟨u, by rw [List.getElem?_append_right (by omega), hl, hi0]; rfl, keep hu⟩

/-- What the loop over the groups leaves as it was. -/
structure Kept (w w' : World) (pb : Nat) : Prop where
  cells : ∀ g o, g < w.heap.size → g ≠ pb → w'.cell? ⟨g, o, none⟩ = w.cell? ⟨g, o, none⟩
  own : ∀ o, o ≠ 2 → w'.cell? ⟨pb, o, none⟩ = w.cell? ⟨pb, o, none⟩
  fz : ∀ o, w'.frozen? ⟨pb, o, none⟩ = w.frozen? ⟨pb, o, none⟩
  size : w.heap.size ≤ w'.heap.size
  low : Below pb w w'
theorem Kept.refl (w : World) (pb : Nat) : Kept w w pb := ⟨fun _ _ _ _ => rfl, fun _ _ => rfl, fun _ => rfl, Nat.le_refl _, Below.refl _ _⟩
theorem Kept.below {w w1 w2 : World} {pb : Nat} (h : Kept w w1 pb) (hp : pb < w.heap.size) (hb : Below w1.heap.size w1 w2) : Kept w w2 pb := by
  have hs := h.size
  refine ⟨fun g o hg hn => (hb.cell (p := ⟨g, o, none⟩) (by show g < _; omega)).trans (h.cells g o hg hn), fun o ho => (hb.cell (p := ⟨pb, o, none⟩) (by show pb < _; omega)).trans (h.own o ho),
    fun o => (hb.frozen (p := ⟨pb, o, none⟩) (by show pb < _; omega)).trans (h.fz o), Nat.le_trans hs hb.size, h.low.trans (hb.mono (by omega))⟩
theorem Kept.push {w w1 wx w2 : World} {pb : Nat} {v x : Value} {e size n : Nat} {xs : List Value} (h : Kept w w1 pb) (hp : pb < w.heap.size) (hb : Below w1.heap.size w1 wx) (ho : wx.ownsRow w.heap.size e size v n xs) (hg : wx.grownBy w2 v.ownBlock) :
    Kept w (w2.setCell ⟨pb, 2, none⟩ x) pb := by
  have h1 := h.below hp hb
  have hz := h1.size
  have k : ∀ g o, g < w.heap.size → w2.cell? ⟨g, o, none⟩ = wx.cell? ⟨g, o, none⟩ ∧ w2.frozen? ⟨g, o, none⟩ = wx.frozen? ⟨g, o, none⟩ := fun g o hgw => by
    have hne : some g ≠ v.ownBlock := fun e => by have := (ho.lt g e.symm).1; omega
    exact ⟨World.cell?_of_block (w := wx) (a := ⟨g, o, none⟩) (hg.block g (by omega) hne), World.frozen?_of_block (w := wx) (a := ⟨g, o, none⟩) (hg.block g (by omega) hne)⟩
  refine ⟨fun g o hgw hn => ?_, fun o hn => ?_, fun o => ?_, ?_, ?_⟩
  · rw [cell_set_block _ _ _ _ _ _ hn, (k g o hgw).1]; exact h1.cells g o hgw hn
  · rw [cell_set_off _ _ _ _ _ hn, (k pb o hp).1]; exact h1.own o hn
  · rw [World.frozen?_setCell, (k pb o hp).2]; exact h1.fz o
  · rw [size_set]; exact Nat.le_trans hz hg.size
  · exact (h1.low.grown hg (by omega) (fun j hj => by have := (ho.lt j hj).1; omega)).setCell (Nat.le_refl _) _

/-- The needs are stored. -/
theorem PAt.needs' {w w2 : World} {pb B : Nat} {p : M.Pk} {nv bv fv v : Value} {ls : List (List M.Ch)} (h : PAt w pb B p nv bv fv) (hk : Kept w w2 pb) (hf : p.files = []) (hv : w2.cell? ⟨pb, 2, none⟩ = some v) (hls : ls ≠ [])
    (hG : GroupsAt w2 w.heap.size v ls) : PAt w2 pb w2.heap.size { p with needs := ls } v bv fv := by
  have hlt := h.lt
  have hle := h.le
  have hs := hk.size
  have e := h.fnil hf
  subst e
  refine ⟨(hk.own 0 (by decide)).trans h.c0, (hk.own 1 (by decide)).trans h.c1, hv, (hk.own 3 (by decide)).trans h.c3, (hk.own 4 (by decide)).trans h.c4, fun o => (hk.fz o).trans (h.fz o), by omega, Nat.le_refl _,
    hG.needs (by omega), (h.bars.keep (fun g o hg1 hg2 => hk.cells g o (by omega) (by omega))).wide (Nat.le_refl _) (by omega), ?_, fun e => absurd e hls, fun _ => rfl⟩
  show World.ownsRow _ _ _ _ _ p.files.length (flsCells p.files)
  rw [hf]; exact World.ownsRow_nil _ _ _ _

def groupB (s : ByteArray) : Option (List M.Ch) := choicesB s ⟨#[32, 124, 32]⟩ 3
def preG (ps : List ByteArray) (k : Nat) (l : List (List M.Ch)) : Prop := M.allS M.groupS ((ps.take k).map (fun p => p.data.toList)) = some l
theorem preG_go {ps : List ByteArray} {k : Nat} {l : List (List M.Ch)} (h : preG ps k l) (hk : k < ps.length) (c : List M.Ch) (hc : groupB ps[k] = some c) : preG ps (k + 1) (l ++ [c]) := by
  unfold preG at h ⊢
  rw [List.take_add_one, List.getElem?_eq_getElem hk]
  simp only [Option.toList_some, List.map_append, List.map_cons, List.map_nil]
  rw [allS_snoc _ _ _ _ h, show M.groupS ps[k].data.toList = some c from hc]
  rfl
theorem preG_no {ps : List ByteArray} {k : Nat} {l : List (List M.Ch)} (h : preG ps k l) (hk : k < ps.length) (hc : groupB ps[k] = none) : M.allS M.groupS (ps.map (fun p => p.data.toList)) = none := by
  unfold preG at h
  have e : ps.map (fun p => p.data.toList) = ((ps.take k).map (fun p => p.data.toList) ++ [ps[k].data.toList]) ++ (ps.drop (k + 1)).map (fun p => p.data.toList) := by
    have e1 : ps = (ps.take k ++ [ps[k]]) ++ ps.drop (k + 1) := by
      rw [List.append_assoc, List.singleton_append, ← List.drop_eq_getElem_cons hk, List.take_append_drop]
    have e2 := congrArg (List.map (fun p : ByteArray => p.data.toList)) e1
    rw [List.map_append, List.map_append] at e2
    exact e2
  rw [e]
  exact allS_stop _ _ _ (by rw [allS_snoc _ _ _ _ h, show M.groupS ps[k].data.toList = none from hc]; rfl)

set_option maxRecDepth 100000 in
set_option maxHeartbeats 2000000 in
theorem line_needs (s : ByteArray) (k : Nat) (w : World) (pb B : Nat) (p : M.Pk) (nv bv fv : Value) (hP : PAt w pb B p nv bv fv) (hk : 0 < k) (hk2 : k ≤ 1000000) (hl : s.size ≤ 100000)
    (h1 : M.begins s.data.toList M.needsW = true) (h1' : p.needs.length + p.bars.length + p.files.length = 0) :
    Calls Tryz.prog 37 #[.pointer (some ⟨pb, 0, none⟩), .int .i64 k, .string s] w (LinePost s k pb p w) := by
  obtain ⟨i0, hi0, hz0, hz1, hz2⟩ := info_parts infoChs
  have b1 : beginsB s needsT = true := h1
  have b2 : beginsB s barsT = false := excl h1 (by decide)
  have b3 : beginsB s fileT = false := excl h1 (by decide)
  have hn0 : p.needs.length = 0 := by omega
  have hb0 : p.bars.length = 0 := by omega
  have hf0 : p.files.length = 0 := by omega
  have hs6 : 6 ≤ s.size := by unfold M.begins at h1; simp [M.needsW] at h1; omega
  obtain ⟨ps, hps⟩ := bytes_list (cutB (s.extract 6 s.size) ⟨#[44, 32]⟩)
  have HE : Hid (M.lineS p k s.data.toList = (match M.allS M.groupS (ps.map (fun p => p.data.toList)) with | none => none | some l => if l.length ≤ 3 then some { p with needs := l } else none)) := by
    show _ = _
    rw [← hps]
    unfold M.lineS cutB
    rw [if_neg (by omega), if_pos ⟨h1, h1'⟩, ext_from]
    show (match M.allS M.groupS (M.cutS (s.data.toList.drop 6) [44, 32]) with | none => none | some l => if l.length ≤ 3 then some { p with needs := l } else none) = _
    rfl
  have hk0 : ((k : Int) == 0) = false := by rw [beq_eq_false_iff_ne]; omega
  have HF : Hid (p.files = []) := List.length_eq_zero_iff.mp hf0
  have HN : Hid (p.needs = []) := List.length_eq_zero_iff.mp hn0
  have hpl : 0 < ps.length := by
    have e : (cutB (s.extract 6 s.size) ⟨#[44, 32]⟩).length = ps.length := by rw [hps]; simp
    have := (M.cutS_len (s.extract 6 s.size).data.toList [44, 32]).1
    have : 0 < (cutB (s.extract 6 s.size) ⟨#[44, 32]⟩).length := this
    omega
  have hpn : ps.length ≤ 100001 := by
    have e : (cutB (s.extract 6 s.size) ⟨#[44, 32]⟩).length = ps.length := by rw [hps]; simp
    have : (cutB (s.extract 6 s.size) ⟨#[44, 32]⟩).length ≤ (s.extract 6 s.size).data.toList.length + 1 := (M.cutS_len (s.extract 6 s.size).data.toList [44, 32]).2
    simp only [Array.length_toList, ByteArray.size_data] at this
    have := ext_size s 6 s.size
    omega
  have HZ : Hid (∀ q ∈ ps, q.size ≤ 100000) := fun q hq => by have := piece_size hps q hq; have := ext_size s 6 s.size; omega
  have cC := fun wx => cut_c (s.extract 6 s.size) ⟨#[44, 32]⟩ wx (by decide) (by have := ext_size s 6 s.size; omega) (by decide) ps hps
  clear hps
  have enil := hP.nnil HN.out
  obtain ⟨ab, cb, eb⟩ := hP.bars.form
  obtain ⟨af, cf, ef⟩ := own_form hP.files
  rw [hb0] at eb
  rw [hf0] at ef
  subst enil eb ef
  clear hb0 hf0 hn0 h1 h1'
  have q2 := hP.c2
  have q3 := hP.c3
  have q4 := hP.c4
  have cB := fun wx t => begins_any s t wx
  go_enter Tryz.func37, Tryz.ntmps37
  go_wp2_with fail
  refine (cB _ needsT).mono ?_
  rintro e w' ⟨rfl, rfl⟩
  go_wp2_with fail
  refine (cB _ barsT).mono ?_
  rintro e w' ⟨rfl, rfl⟩
  go_wp2_with fail
  refine (cB _ fileT).mono ?_
  rintro e w' ⟨rfl, rfl⟩
  go_wp2
  go_quiet (fail)
  go_wp2_with fail
  refine (cC _).mono ?_
  rintro e w1 ⟨g, cap, rfl, hg1, hg2, hcap, hc, hB1⟩
  have hQ := (hP.below (below_same w' _)).below hB1
  have HQ : Hid (PAt w1 pb B p _ _ _) := hQ
  have HC : Hid (∀ j (hj : j < ps.length), w1.cell? ⟨g, j, none⟩ = some (.string ps[j])) := hc
  have hpw' : pb < w'.heap.size := Nat.lt_of_lt_of_le hP.lt hP.le
  have hpw : pb < w1.heap.size := Nat.lt_of_lt_of_le hQ.lt hQ.le
  have hgp : g ≠ pb := by have := hg1; simp at this; omega
  have r2 := hQ.c2
  clear hQ q2 q3 q4 cB cC hc
  go_wp2
  go_loopw [14, 15, 16] (fun i _ _ wr => ∃ (j : Nat) (ls : List (List M.Ch)) (v : Value), i = .int .i64 j ∧ j ≤ ps.length ∧ ls.length = j ∧ wr.cell? ⟨pb, 2, none⟩ = some v ∧ GroupsAt wr w1.heap.size v ls ∧ Kept w1 wr pb ∧ Hid (preG ps j ls)) (fun i _ _ _ => ps.length - (intOf i).toNat)
  case atStart => exact ⟨0, [], _, rfl, Nat.zero_le _, rfl, r2, GroupsAt.nil _ _, Kept.refl _ _, rfl⟩
  case round =>
    obtain ⟨j, ls, v, rfl, hj, hlj, hv, hG, hK, HR⟩ := hrel
    by_cases hlt : j < ps.length
    · have cj : wr.cell? ⟨g, j, none⟩ = some (.string ps[j]) := (hK.cells g j hg2 hgp).trans (HC.out j hlt)
      have hpk : ps[j].size ≤ 100000 := HZ.out _ (List.getElem_mem hlt)
      have cK : ∀ wx, Calls Tryz.prog 62 #[.string ps[j], .string ⟨#[32, 124, 32]⟩, .int .i64 3] wx fun e w' => ∃ v l, e = .returned (.tuple #[v, .bool (groupB ps[j]).isSome]) ∧
          w'.ownsRow wx.heap.size 125 3 v l.length (chsCells l) ∧ (∀ x, groupB ps[j] = some x → x = l) ∧ l.length ≤ ps[j].size + 1 ∧ Below wx.heap.size wx w' := fun wx => choices_any ps[j] ⟨#[32, 124, 32]⟩ 3 wx (by decide) hpk (by decide) (by decide)
      cases hgr : groupB ps[j] with
      | none =>
        rw [hgr] at cK
        have HF0 : Hid (M.lineS p k s.data.toList = none) := by show _ = _; rw [HE.out, preG_no HR.out hlt hgr]
        clear hgr
        go_wp2_with fail
        refine (cK _).mono ?_
        rintro e w2 ⟨u, l, rfl, hu, _, _, hB2⟩
        clear cK
        go_wp2
        go_ret
        exact ⟨ret_bool (by rw [HF0.out]; rfl), (fun p' h => by rw [HF0.out] at h; cases h), ((below_same w' _).mono (Nat.le_of_lt hpw')).trans ((hB1.mono (Nat.le_of_lt hpw')).trans (hK.low.trans (hB2.mono (by have := hK.size; omega))))⟩
      | some c =>
        rw [hgr] at cK
        have HGR : Hid (groupB ps[j] = some c) := hgr
        clear hgr
        go_wp2_with fail
        refine (cK _).mono ?_
        rintro e w2 ⟨u, l, rfl, hu, hx, _, hB2⟩
        obtain rfl := hx c rfl
        clear cK hx
        have hKs := hK.size
        have hs2 := hB2.size
        have hv2 : w2.cell? ⟨pb, 2, none⟩ = some v := (hB2.cell (p := ⟨pb, 2, none⟩) (by show pb < _; omega)).trans hv
        have hG2 := hG.below hB2
        obtain ⟨vs, hown, hrows⟩ := hG2
        have HROWS : Hid (∀ (i : Nat) x, ls[i]? = some x → ∃ u, vs[i]? = some u ∧ w2.ownsRow w1.heap.size 125 3 u x.length (chsCells x)) := hrows
        have hf2 : ∀ o, w2.frozen? ⟨pb, o, none⟩ = false := fun o => (hB2.frozen (p := ⟨pb, o, none⟩) (by show pb < _; omega)).trans ((hK.fz o).trans (HQ.out.fz o))
        have hu' := own_base hu hKs
        clear hG hu hrows
        rw [hlj] at hown
        obtain ⟨au, cu, eu⟩ := own_form hu'
        subst eu
        have HU : Hid (w2.ownsRow w1.heap.size 125 3 (.slice au c.length cu) c.length (chsCells c)) := hu'
        clear hu'
        go_wp2_with (at_builtin; refine wpList_append_own _ rfl _ _ 26 rfl w1.heap.size 27 i0 (.slice none 0 0) 1 24 Tryz.underlying26 hi0 hz0 hz1 hz2 rfl (by decide) _ _ _ rfl (hown.alloc _) ⟨w2.heap.size, 0, none⟩ 1 1 [.slice au c.length cu] rfl rfl ?c1 ?c2 ?c3 ?c4 ?c5 ?_)
        case c1 => exact one_new _ _ _
        case c2 => intro x hx; simp at hx; subst hx; rfl
        case c3 => unfold maxLen; omega
        case c4 => omega
        case c5 => simp; omega
        intro v' w3 hown' hgrow _
        have R1 : GroupsAt w3 w1.heap.size v' (ls ++ [c]) := GroupsAt.push (by rw [hlj]; exact hown) HROWS.out HU.out (by rw [hlj]; exact hown') hgrow
        have R2 : Kept w1 (w3.setCell ⟨pb, 2, none⟩ v') pb := hK.push hpw (hB2.alloc hs2 _) (hown.alloc _) hgrow
        have hne : some pb ≠ v.ownBlock := fun h => by have := (hown.lt pb h.symm).1; omega
        have s2 : w3.cell? ⟨pb, 2, none⟩ = some v := (World.cell?_of_block (w := w2.alloc _) (a := ⟨pb, 2, none⟩) (hgrow.block pb (by simp; omega) hne)).trans ((World.cell?_alloc_past _ _ _ (by show pb < _; omega)).trans hv2)
        have s3 : w3.frozen? ⟨pb, 2, none⟩ = false := (World.frozen?_of_block (w := w2.alloc _) (a := ⟨pb, 2, none⟩) (hgrow.block pb (by simp; omega) hne)).trans ((World.frozen?_alloc_past _ _ _ (by show pb < _; omega)).trans (hf2 2))
        clear hgrow hown hK hv hv2 hf2
        obtain ⟨av, cv, ev⟩ := own_form hown'
        subst ev
        clear hown'
        go_wp2
        go_roundw
        case rel => exact ⟨j + 1, ls ++ [c], _, by go_num, by omega, by simp; omega, World.cell?_setCell_same _ _ _ s2, R1.set hpw, R2, preG_go HR.out hlt c HGR.out⟩
        case measure => simp [intOf]; omega
    · have hjj : j = ps.length := by omega
      have HE2 : Hid (M.lineS p k s.data.toList = if ls.length ≤ 3 then some { p with needs := ls } else none) := by
        have h := HR.out
        unfold preG at h
        rw [hjj, List.take_length] at h
        show _ = _
        rw [HE.out, h]
      have hG0 := hG
      obtain ⟨vs, hown, _⟩ := hG0
      obtain ⟨av, cv, ev⟩ := own_form hown
      subst ev
      have HPN : Hid (PAt wr pb wr.heap.size { p with needs := ls } _ _ _) := PAt.needs' HQ.out hK HF.out hv (fun e => by rw [e] at hlj; simp at hlj; omega) hG
      have HKL : Hid (Below pb w1 wr) := hK.low
      clear hown HE HR hG hK
      rw [hlj] at hv
      have hbl : Hid (Below pb w' wr) := ((below_same w' _).mono (Nat.le_of_lt hpw')).trans ((hB1.mono (Nat.le_of_lt hpw')).trans HKL.out)
      go_wp2
      go_ret
      refine ⟨ret_bool ?_, ?_, hbl.out⟩
      · rw [HE2.out]
        by_cases h3 : ls.length ≤ 3
        · rw [if_pos h3]; show decide _ = true; rw [decide_eq_true_iff]; omega
        · rw [if_neg h3]; show decide _ = false; rw [decide_eq_false_iff_not]; omega
      · intro p' hp'
        rw [HE2.out] at hp'
        split at hp'
        · cases hp'; exact ⟨_, _, _, _, HPN.out⟩
        · cases hp'
end Go.Proofs.YtgnfknjopafngaaGreatDoor
/-
  THE DOCUMENT's ANSWER, WALKED: every line.
-/
namespace Go.Proofs.YtgnfknjopafngaaGreatDoor
open Go.RowKit

/-- What is known of a package while its text is read. -/
structure PkOk (p : M.Pk) : Prop where
  needs : p.needs.length ≤ 3
  bars : p.bars.length ≤ 3
  files : p.files.length ≤ 4
  paths : ∀ f ∈ p.files, f.path.length ≤ 100000

theorem choicesS_len {s sep : List UInt8} {m : Nat} {l : List M.Ch} (h : M.choicesS s sep m = some l) : l.length ≤ m := by
  unfold M.choicesS at h
  split at h
  · cases h
  · split at h
    · cases h; assumption
    · cases h
theorem lineS_ok {p p' : M.Pk} {k : Nat} {s : List UInt8} (hp : PkOk p) (hs : s.length ≤ 100000) (h : M.lineS p k s = some p') : PkOk p' := by
  unfold M.lineS at h
  split at h
  · split at h
    · cases h
    · cases h; exact ⟨hp.needs, hp.bars, hp.files, hp.paths⟩
  · split at h
    · split at h
      · cases h
      · split at h
        · cases h; exact ⟨by assumption, hp.bars, hp.files, hp.paths⟩
        · cases h
    · split at h
      · split at h
        · cases h
        · rename_i l hl; cases h; exact ⟨hp.needs, choicesS_len hl, hp.files, hp.paths⟩
      · split at h
        · rename_i hc
          split at h
          · cases h
          · rename_i f hf
            split at h
            · cases h
              refine ⟨hp.needs, hp.bars, by simp; omega, fun g hg => ?_⟩
              rcases List.mem_append.mp hg with hg | hg
              · exact hp.paths g hg
              · simp at hg
                subst hg
                unfold M.fileS at hf
                split at hf
                · cases hf
                · split at hf
                  · cases hf; simp; omega
                  · cases hf
            · cases h
        · cases h

theorem line_any (s : ByteArray) (k : Nat) (w : World) (pb : Nat) (p : M.Pk) (hP : PkAt w pb p) (hO : PkOk p) (hk2 : k ≤ 1000000) (hl : s.size ≤ 100000) :
    Calls Tryz.prog 37 #[.pointer (some ⟨pb, 0, none⟩), .int .i64 k, .string s] w (LinePost s k pb p w) := by
  obtain ⟨B, nv, bv, fv, hP⟩ := hP
  by_cases hk : k = 0
  · subst hk
    refine (line0_any s w pb B p nv bv fv hP hl).mono fun e w' ⟨h1, h2, h3⟩ => ?_
    have e0 : M.lineS p 0 s.data.toList = (titleB s).map (fun x => { p with name := x.1, ver := x.2 }) := by
      unfold M.lineS titleB
      rw [if_pos rfl]
      cases M.titleS s.data.toList <;> rfl
    refine ⟨by rw [e0, Option.isSome_map]; exact h1, fun p' hp' => ?_, h3⟩
    rw [e0] at hp'
    cases ht : titleB s with
    | none => rw [ht] at hp'; cases hp'
    | some x => rw [ht] at hp'; cases hp'; exact ⟨B, nv, bv, fv, h2 x.1 x.2 ht⟩
  · have hk' : 0 < k := by omega
    have o1 := hO.needs
    have o2 := hO.bars
    have o3 := hO.files
    by_cases h1 : M.begins s.data.toList M.needsW = true ∧ p.needs.length + p.bars.length + p.files.length = 0
    · exact line_needs s k w pb B p nv bv fv hP hk' hk2 hl h1.1 h1.2
    · by_cases h2 : M.begins s.data.toList M.barsW = true ∧ p.bars.length + p.files.length = 0
      · exact line_bars s k w pb B p nv bv fv hP hk' hk2 hl h2.1 h2.2
      · by_cases h3 : M.begins s.data.toList M.fileW = true ∧ p.files.length < 4
        · exact line_file s k w pb B p nv bv fv hP hk' hk2 hl h3.1 h3.2 (fun f hf => by have := hO.paths f hf; omega)
        · exact line_none s k w pb B p nv bv fv hP hk' hk2 (by omega) (by omega) (by omega) h1 h2 h3
end Go.Proofs.YtgnfknjopafngaaGreatDoor
