import Derived.Test.YtgnfknjopafngaaGreatDoorKfh
namespace Go.Proofs.YtgnfknjopafngaaGreatDoor
open Go.RowKit
theorem infoFlC : (Tryz.prog.info? 159).map (fun i => (i.zero, i.size, i.bytes)) = some (some (.agg #[.string ⟨#[]⟩, .string ⟨#[]⟩]), 2, 32) := by kernel_rfl
def AddPost (o : Option (List M.Fl)) (B : Nat) (fv : Value) (w : World) (e : Ending) (w' : World) : Prop := match o with
  | none => Thrown e ∧ Below w.heap.size w w'
  | some l => ∃ v' wx, e = .returned v' ∧ w'.ownsRow B 159 2 v' l.length (flsCells l) ∧ Below w.heap.size w wx ∧ wx.grownBy w' fv.ownBlock
theorem add_none {o : Option (List M.Fl)} {B : Nat} {fv : Value} {w : World} {e : Ending} {w' : World} (ho : o = none) (h : Thrown e) (hb : Below w.heap.size w w') : AddPost o B fv w e w' := by
  subst ho; exact ⟨h, hb⟩
set_option maxRecDepth 100000 in
set_option maxHeartbeats 2000000 in
theorem addFile_any (l : List M.Fl) (X Y : ByteArray) (B : Nat) (fv : Value) (w : World) (hX : X.size ≤ 100000) (hl : l.length ≤ 1000000) (hB : B ≤ w.heap.size)
    (h : w.ownsRow B 159 2 fv l.length (flsCells l)) (hs : ∀ f ∈ l, f.path.length ≤ 100000) :
    Calls Tryz.prog 137 #[fv, .agg #[.string X, .string Y]] w (AddPost (if l.length < 4 ∧ (l.any fun g => clashS X.data.toList g.path) = false then some (l ++ [⟨X.data.toList, Y.data.toList⟩]) else none) B fv w) := by
  obtain ⟨i0, hi0, hz0, hz1, hz2⟩ := info_parts infoFlC
  obtain ⟨O, HO⟩ : ∃ O, Hid (O = if l.length < 4 ∧ (l.any fun g => clashS X.data.toList g.path) = false then some (l ++ [(⟨X.data.toList, Y.data.toList⟩ : M.Fl)]) else none) := ⟨_, rfl⟩
  rw [← HO.out]
  have cY := must_ok
  have cN := must_no
  have hmf : ∀ (fn : Fn) (first cap : Array Value) (w : World), (Instr.makeFunc fn first cap).run Tryz.prog w = .ok (.func fn first cap) w := fun _ _ _ _ => rfl
  obtain ⟨hB1, hz, hcl, hfz⟩ := newB w [.string X, .string Y] 159 0
  replace hB1 : Below w.heap.size w (w.alloc (.cells #[.string X, .string Y] 159)) := hB1
  replace hz : (w.alloc (.cells #[.string X, .string Y] 159)).heap.size = w.heap.size + 1 := hz
  have q0 : (w.alloc (.cells #[.string X, .string Y] 159)).cell? ⟨w.heap.size, 0, none⟩ = some (.string X) := hcl 0 _ rfl
  have q1 : (w.alloc (.cells #[.string X, .string Y] 159)).cell? ⟨w.heap.size, 1, none⟩ = some (.string Y) := hcl 1 _ rfl
  have hown1 := own_below h hB1
  have cF := containsFunc_any X w.heap.size B l fv _ hX q0 hl hown1 hs
  obtain ⟨af, cf, ef⟩ := own_form h
  subst ef
  by_cases h4 : l.length < 4
  · have h4' : (l.length : Int) < 4 := by omega
    cases hcl2 : (l.any fun g => clashS X.data.toList g.path) with
    | true =>
      rw [hcl2] at cF
      have HE : Hid (O = none) := HO.out.trans (if_neg (by rw [hcl2]; simp))
      clear hcl hfz hown1 hs h q0 q1 hz hcl2
      go_enter Tryz.func137, Tryz.ntmps137
      go_wp2_with (first | (go_at_call 83; refine (cY _).mono ?_; rintro e w' ⟨rfl, rfl⟩) | (go_at_call 173; refine cF.mono ?_; rintro e w2 ⟨rfl, hB2⟩) | (go_at_call 83; refine (cN _).mono ?_; rintro e w' ⟨rfl, rfl⟩))
      exact ⟨rfl, add_none HE.out rfl (bt hB1 hB2)⟩
    | false =>
      rw [hcl2] at cF
      have HE : Hid (O = some (l ++ [(⟨X.data.toList, Y.data.toList⟩ : M.Fl)])) := HO.out.trans (if_pos ⟨h4, hcl2⟩)
      replace cY : ∀ wx, Calls Tryz.prog 83 #[.bool true] wx fun e w' => e = .returned (.tuple #[]) ∧ wx = w' := fun wx => (cY wx).mono fun e w' h => ⟨h.1, h.2.symm⟩
      have HOW : Hid ((w.alloc (.cells #[.string X, .string Y] 159)).ownsRow B 159 2 (.slice af l.length cf) l.length (flsCells l)) := hown1
      have HQ0 : Hid ((w.alloc (.cells #[.string X, .string Y] 159)).cell? ⟨w.heap.size, 0, none⟩ = some (.string X)) := q0
      have HQ1 : Hid ((w.alloc (.cells #[.string X, .string Y] 159)).cell? ⟨w.heap.size, 1, none⟩ = some (.string Y)) := q1
      have HZ : Hid ((w.alloc (.cells #[.string X, .string Y] 159)).heap.size = w.heap.size + 1) := hz
      clear hcl hfz hown1 hs h q0 q1 hz hcl2 cN
      go_enter Tryz.func137, Tryz.ntmps137
      go_wp2_with ((go_at_call 83; refine (cY _).mono ?_; rintro e w' ⟨rfl, rfl⟩))
      refine cF.mono ?_
      rintro e w2 ⟨rfl, hB2⟩
      have r0 := (hB2.cell (p := ⟨w.heap.size, 0, none⟩) (by show w.heap.size < _; rw [HZ.out]; omega)).trans HQ0.out
      have r1 := (hB2.cell (p := ⟨w.heap.size, 1, none⟩) (by show w.heap.size < _; rw [HZ.out]; omega)).trans HQ1.out
      have hown2 := own_below HOW.out hB2
      have hs2 : w.heap.size < w2.heap.size := by have := hB2.size; have := HZ.out; omega
      have HB2 : Hid (Below w.heap.size w w2) := bt hB1 hB2
      clear hB2 cF
      go_wp2_with (first | (go_at_call 83; refine (cY _).mono ?_; rintro e w' ⟨rfl, rfl⟩) | (at_builtin; refine wpList_append_own _ rfl _ _ 106 rfl B 159 i0 (.agg #[.string ⟨#[]⟩, .string ⟨#[]⟩]) 2 32 Tryz.underlying106 hi0 hz0 hz1 hz2 rfl (by decide) _ _ _ rfl (hown2.alloc _) ⟨w2.heap.size, 0, none⟩ 1 1 [.string X, .string Y] rfl rfl ?c1 ?c2 ?c3 ?c4 ?c5 ?_))
      case c1 => exact new_cells _ [.string X, .string Y] _
      case c2 => intro u hu; simp at hu; rcases hu with rfl | rfl <;> rfl
      case c3 => unfold maxLen; omega
      case c4 => omega
      case c5 => simp; omega
      intro v' w3 hown' hgrow _
      obtain ⟨av, cv, ev⟩ := own_form hown'
      subst ev
      go_wp2
      go_ret
      refine (show AddPost O B (.slice af l.length cf) w _ _ from ?_)
      rw [HE.out]
      refine ⟨_, w2.alloc (.cells #[.string X, .string Y] 159), rfl, ?_, HB2.out.alloc (by omega) _, hgrow⟩
      rw [flsCells_snoc, List.length_append]
      exact hown'
  · have h4' : ¬ (l.length : Int) < 4 := by omega
    have hd : decide ((l.length : Int) < 4) = false := by simp; omega
    have HE : Hid (O = none) := HO.out.trans (if_neg (fun h => h4 h.1))
    clear hcl hfz hown1 hs h q0 q1 hz cF cY
    go_enter Tryz.func137, Tryz.ntmps137
    go_wp2_with ((go_at_call 83; refine (cN _).mono ?_; rintro e w' ⟨rfl, rfl⟩))
    exact ⟨rfl, add_none HE.out rfl hB1⟩
end Go.Proofs.YtgnfknjopafngaaGreatDoor
namespace Go.Proofs.YtgnfknjopafngaaGreatDoor
open Go.RowKit
theorem infoChs : (Tryz.prog.info? 27).map (fun i => (i.zero, i.size, i.bytes)) = some (some (.slice none 0 0), 1, 24) := by kernel_rfl
theorem own_apart {w : World} {B B' e e' size size' n n' : Nat} {v u : Value} {xs ys : List Value} (h : w.ownsRow B e size v n xs) (k : w.ownsRow B' e' size' u n' ys) (he : e ≠ e') : u.ownBlock = none ∨ u.ownBlock ≠ v.ownBlock := by
  obtain ⟨_, ⟨rfl, _⟩ | ⟨g, cap, cur, rfl, _, hg, _⟩⟩ := k
  · exact .inl rfl
  · right
    obtain ⟨_, ⟨rfl, _⟩ | ⟨g', cap', cur', rfl, _, hg', _⟩⟩ := h
    · simp [Value.ownBlock]
    · intro e1
      have e2 : g = g' := by simpa [Value.ownBlock] using e1
      subst e2
      rw [hg] at hg'
      simp at hg'
      exact he hg'.2.symm
def GroupsAt (w : World) (B : Nat) (v : Value) (ls : List (List M.Ch)) : Prop :=
  ∃ vs : List Value, w.ownsRow B 27 1 v ls.length vs ∧ ∀ (i : Nat) x, ls[i]? = some x → ∃ u, vs[i]? = some u ∧ w.ownsRow B 125 3 u x.length (chsCells x)
theorem GroupsAt.nil (w : World) (B : Nat) : GroupsAt w B (.slice none 0 0) [] := ⟨[], World.ownsRow_nil _ _ _ _, fun i x h => by simp at h⟩
theorem GroupsAt.below {w w' : World} {B : Nat} {v : Value} {ls : List (List M.Ch)} (h : GroupsAt w B v ls) (hb : Below w.heap.size w w') : GroupsAt w' B v ls := by
  obtain ⟨vs, h1, h2⟩ := h
  exact ⟨vs, own_below h1 hb, fun i x hx => by obtain ⟨u, a, b⟩ := h2 i x hx; exact ⟨u, a, own_below b hb⟩⟩
theorem GroupsAt.set {w : World} {B b o : Nat} {v x : Value} {ls : List (List M.Ch)} (h : GroupsAt w B v ls) (hb : b < B) : GroupsAt (w.setCell ⟨b, o, none⟩ x) B v ls := by
  obtain ⟨vs, h1, h2⟩ := h
  exact ⟨vs, ownsRow_setCell_below h1 hb _, fun i y hy => by obtain ⟨u, a, c⟩ := h2 i y hy; exact ⟨u, a, ownsRow_setCell_below c hb _⟩⟩
theorem GroupsAt.needs {w : World} {B lo : Nat} {v : Value} {ls : List (List M.Ch)} (h : GroupsAt w B v ls) (hl : lo ≤ B) : NeedsIn w lo w.heap.size v ls := by
  obtain ⟨vs, h1, h2⟩ := h
  refine ⟨vs, (RowIn.own h1).wide hl (Nat.le_refl _), by have := h1.1; omega, fun i x hx => ?_⟩
  obtain ⟨u, a, b⟩ := h2 i x hx
  exact ⟨u, a, (RowIn.own b).wide hl (Nat.le_refl _)⟩
theorem GroupsAt.push {w w1 : World} {B : Nat} {v v' u : Value} {ls : List (List M.Ch)} {l : List M.Ch} {vs : List Value} {o : Obj} (h1 : w.ownsRow B 27 1 v ls.length vs)
    (h2 : ∀ (i : Nat) x, ls[i]? = some x → ∃ u, vs[i]? = some u ∧ w.ownsRow B 125 3 u x.length (chsCells x))
    (hu : w.ownsRow B 125 3 u l.length (chsCells l)) (ho : w1.ownsRow B 27 1 v' (ls.length + 1) (vs ++ [u])) (hg : (w.alloc o).grownBy w1 v.ownBlock) : GroupsAt w1 B v' (ls ++ [l]) := by
  have keep : ∀ {x : Value} {n : Nat} {ys : List Value}, w.ownsRow B 125 3 x n ys → w1.ownsRow B 125 3 x n ys := fun hx =>
    (hx.alloc o).kept hg (own_apart h1 hx (by decide))
  have hl : vs.length = ls.length := by have := h1.1; omega
  refine ⟨vs ++ [u], by simpa using ho, fun i x hx => ?_⟩
  by_cases hi : i < ls.length
  · rw [List.getElem?_append_left hi] at hx
    obtain ⟨y, a, b⟩ := h2 i x hx
    exact ⟨y, by rw [List.getElem?_append_left (by omega)]; exact a, keep b⟩
  · rw [List.getElem?_append_right (by omega)] at hx
    have hi0 : i - ls.length = 0 := by
      by_cases e : i - ls.length = 0
      · exact e
      · rw [List.getElem?_eq_none (by simp; omega)] at hx; cases hx
    rw [hi0] at hx
    simp at hx
    subst hx
    exact ⟨u, by rw [List.getElem?_append_right (by omega), hl, hi0]; rfl, keep hu⟩
structure Kept (w w' : World) (pb : Nat) : Prop where
  cells : ∀ g o, g < w.heap.size → g ≠ pb → CellS w w' g o
  own : ∀ o, o ≠ 2 → w'.cell? ⟨pb, o, none⟩ = w.cell? ⟨pb, o, none⟩
  fz : ∀ o, w'.frozen? ⟨pb, o, none⟩ = w.frozen? ⟨pb, o, none⟩
  size : w.heap.size ≤ w'.heap.size
  low : Below pb w w'
theorem Kept.refl (w : World) (pb : Nat) : Kept w w pb := ⟨fun _ _ _ _ => blockS rfl, fun _ _ => rfl, fun _ => rfl, Nat.le_refl _, Below.refl _ _⟩
theorem Kept.below {w w1 w2 : World} {pb : Nat} (h : Kept w w1 pb) (hp : pb < w.heap.size) (hb : Below w1.heap.size w1 w2) : Kept w w2 pb := by
  have hs := h.size
  refine ⟨fun g o hg hn => (belowS hb (by show g < _; omega)).trans (h.cells g o hg hn), fun o ho => (hb.cell (p := ⟨pb, o, none⟩) (by show pb < _; omega)).trans (h.own o ho),
    fun o => (hb.frozen (p := ⟨pb, o, none⟩) (by show pb < _; omega)).trans (h.fz o), Nat.le_trans hs hb.size, h.low.trans (hb.mono (by omega))⟩
theorem Kept.push {w w1 wx w2 : World} {pb : Nat} {v x : Value} {e size n : Nat} {xs : List Value} (h : Kept w w1 pb) (hp : pb < w.heap.size) (hb : Below w1.heap.size w1 wx) (ho : wx.ownsRow w.heap.size e size v n xs) (hg : wx.grownBy w2 v.ownBlock) :
    Kept w (w2.setCell ⟨pb, 2, none⟩ x) pb := by
  have h1 := h.below hp hb
  have hz := h1.size
  have k : ∀ g o, g < w.heap.size → w2.cell? ⟨g, o, none⟩ = wx.cell? ⟨g, o, none⟩ ∧ w2.frozen? ⟨g, o, none⟩ = wx.frozen? ⟨g, o, none⟩ := fun g o hgw => by
    have hne : some g ≠ v.ownBlock := fun e => by have := (ho.lt g e.symm).1; omega
    exact ⟨World.cell?_of_block (w := wx) (a := ⟨g, o, none⟩) (hg.block g (by omega) hne), World.frozen?_of_block (w := wx) (a := ⟨g, o, none⟩) (hg.block g (by omega) hne)⟩
  refine ⟨fun g o hgw hn => ?_, fun o hn => ?_, fun o => ?_, ?_, ?_⟩
  · exact ((setS hn).trans (blockS (hg.block g (by omega) (fun e => by have := (ho.lt g e.symm).1; omega)))).trans (h1.cells g o hgw hn)
  · rw [cell_set_off _ _ _ _ _ hn, (k pb o hp).1]; exact h1.own o hn
  · rw [World.frozen?_setCell, (k pb o hp).2]; exact h1.fz o
  · rw [size_set]; exact Nat.le_trans hz hg.size
  · exact (h1.low.grown hg (by omega) (fun j hj => by have := (ho.lt j hj).1; omega)).setCell (Nat.le_refl _) _
theorem PAt.needs' {w w2 : World} {pb B : Nat} {p : M.Pk} {nv bv fv v : Value} {ls : List (List M.Ch)} (h : PAt w pb B p nv bv fv) (hk : Kept w w2 pb) (hf : p.files = []) (hv : w2.cell? ⟨pb, 2, none⟩ = some v) (hls : ls ≠ [])
    (hG : GroupsAt w2 w.heap.size v ls) : PAt w2 pb w2.heap.size { p with needs := ls } v bv fv := by
  have hlt := h.lt
  have hle := h.le
  have hs := hk.size
  have e := h.fnil hf
  subst e
  refine ⟨(hk.own 0 (by decide)).trans h.c0, (hk.own 1 (by decide)).trans h.c1, hv, (hk.own 3 (by decide)).trans h.c3, (hk.own 4 (by decide)).trans h.c4, fun o => (hk.fz o).trans (h.fz o), by omega, Nat.le_refl _,
    hG.needs (by omega), (h.bars.keep (fun g o hg1 hg2 => hk.cells g o (by omega) (by omega))).wide (Nat.le_refl _) (by omega), ?_, fun e => absurd e hls, fun _ => rfl⟩
  show World.ownsRow _ _ _ _ _ p.files.length (flsCells p.files)
  rw [hf]; exact World.ownsRow_nil _ _ _ _
def groupB (s : ByteArray) : Option (List M.Ch) := choicesB s ⟨#[32, 124, 32]⟩ 3
def preG (ps : List ByteArray) (k : Nat) (l : List (List M.Ch)) : Prop := M.allS M.groupS ((ps.take k).map (fun p => p.data.toList)) = some l
theorem preG_go {ps : List ByteArray} {k : Nat} {l : List (List M.Ch)} (h : preG ps k l) (hk : k < ps.length) (c : List M.Ch) (hc : groupB ps[k] = some c) : preG ps (k + 1) (l ++ [c]) := by
  unfold preG at h ⊢
  rw [List.take_add_one, List.getElem?_eq_getElem hk]
  simp only [Option.toList_some, List.map_append, List.map_cons, List.map_nil]
  rw [allS_snoc _ _ _ _ h, show M.groupS ps[k].data.toList = some c from hc]
  rfl
theorem preG_no {ps : List ByteArray} {k : Nat} {l : List (List M.Ch)} (h : preG ps k l) (hk : k < ps.length) (hc : groupB ps[k] = none) : M.allS M.groupS (ps.map (fun p => p.data.toList)) = none := by
  unfold preG at h
  have e : ps.map (fun p => p.data.toList) = ((ps.take k).map (fun p => p.data.toList) ++ [ps[k].data.toList]) ++ (ps.drop (k + 1)).map (fun p => p.data.toList) := by
    have e1 : ps = (ps.take k ++ [ps[k]]) ++ ps.drop (k + 1) := by
      rw [List.append_assoc, List.singleton_append, ← List.drop_eq_getElem_cons hk, List.take_append_drop]
    have e2 := congrArg (List.map (fun p : ByteArray => p.data.toList)) e1
    rw [List.map_append, List.map_append] at e2
    exact e2
  rw [e]
  exact allS_stop _ _ _ (by rw [allS_snoc _ _ _ _ h, show M.groupS ps[k].data.toList = none from hc]; rfl)
set_option maxRecDepth 100000 in
set_option maxHeartbeats 2000000 in
theorem line_needs (s : ByteArray) (k : Nat) (w : World) (pb B : Nat) (p : M.Pk) (nv bv fv : Value) (hP : PAt w pb B p nv bv fv) (hk : 0 < k) (hk2 : k ≤ 1000000) (hl : s.size ≤ 100000)
    (h1 : M.begins s.data.toList M.needsW = true) (h1' : p.needs.length + p.bars.length + p.files.length = 0) :
    Calls Tryz.prog 37 #[.pointer (some ⟨pb, 0, none⟩), .int .i64 k, .string s] w (LinePost s k pb p w) := by
  obtain ⟨i0, hi0, hz0, hz1, hz2⟩ := info_parts infoChs
  have b1 : beginsB s needsT = true := h1
  have b2 : beginsB s barsT = false := excl h1 (by decide)
  have b3 : beginsB s fileT = false := excl h1 (by decide)
  have hn0 : p.needs.length = 0 := by omega
  have hb0 : p.bars.length = 0 := by omega
  have hf0 : p.files.length = 0 := by omega
  have hs6 : 6 ≤ s.size := by unfold M.begins at h1; simp [M.needsW] at h1; omega
  obtain ⟨ps, hps⟩ := bytes_list (cutB (s.extract 6 s.size) ⟨#[44, 32]⟩)
  have HE : Hid (M.lineS p k s.data.toList = (match M.allS M.groupS (ps.map (fun p => p.data.toList)) with | none => none | some l => if l.length ≤ 3 then some { p with needs := l } else none)) := by
    show _ = _
    rw [← hps]
    unfold M.lineS cutB
    rw [if_neg (by omega), if_pos ⟨h1, h1'⟩, ext_from]
    show (match M.allS M.groupS (M.cutS (s.data.toList.drop 6) [44, 32]) with | none => none | some l => if l.length ≤ 3 then some { p with needs := l } else none) = _
    rfl
  have hk0 : ((k : Int) == 0) = false := by rw [beq_eq_false_iff_ne]; omega
  have HF : Hid (p.files = []) := List.length_eq_zero_iff.mp hf0
  have HN : Hid (p.needs = []) := List.length_eq_zero_iff.mp hn0
  have hpl : 0 < ps.length := by
    have e : (cutB (s.extract 6 s.size) ⟨#[44, 32]⟩).length = ps.length := by rw [hps]; simp
    have := (M.cutS_len (s.extract 6 s.size).data.toList [44, 32]).1
    have : 0 < (cutB (s.extract 6 s.size) ⟨#[44, 32]⟩).length := this
    omega
  have hpn : ps.length ≤ 100001 := by
    have e : (cutB (s.extract 6 s.size) ⟨#[44, 32]⟩).length = ps.length := by rw [hps]; simp
    have : (cutB (s.extract 6 s.size) ⟨#[44, 32]⟩).length ≤ (s.extract 6 s.size).data.toList.length + 1 := (M.cutS_len (s.extract 6 s.size).data.toList [44, 32]).2
    simp only [Array.length_toList, ByteArray.size_data] at this
    have := ext_size s 6 s.size
    omega
  have HZ : Hid (∀ q ∈ ps, q.size ≤ 100000) := fun q hq => by have := piece_size hps q hq; have := ext_size s 6 s.size; omega
  have cC := fun wx => cut_c (s.extract 6 s.size) ⟨#[44, 32]⟩ wx (by decide) (by have := ext_size s 6 s.size; omega) (by decide) ps hps
  clear hps
  have enil := hP.nnil HN.out
  obtain ⟨ab, cb, eb⟩ := hP.bars.form
  obtain ⟨af, cf, ef⟩ := own_form hP.files
  rw [hb0] at eb
  rw [hf0] at ef
  subst enil eb ef
  clear hb0 hf0 hn0 h1 h1'
  have q2 := hP.c2
  have q3 := hP.c3
  have q4 := hP.c4
  have cB := fun wx t => begins_any s t wx
  go_enter Tryz.func37, Tryz.ntmps37
  go_wp2_with fail
  refine (cB _ needsT).mono ?_
  rintro e w' ⟨rfl, rfl⟩
  go_wp2_with fail
  refine (cB _ barsT).mono ?_
  rintro e w' ⟨rfl, rfl⟩
  go_wp2_with fail
  refine (cB _ fileT).mono ?_
  rintro e w' ⟨rfl, rfl⟩
  go_wp2
  go_quiet (fail)
  go_wp2_with fail
  refine (cC _).mono ?_
  rintro e w1 ⟨g, cap, rfl, hg1, hg2, hcap, hc, hB1⟩
  have hQ := (hP.below (below_same w' _)).below hB1
  have HQ : Hid (PAt w1 pb B p _ _ _) := hQ
  have HC : Hid (∀ j (hj : j < ps.length), w1.cell? ⟨g, j, none⟩ = some (.string ps[j])) := hc
  have hpw' : pb < w'.heap.size := Nat.lt_of_lt_of_le hP.lt hP.le
  have hpw : pb < w1.heap.size := Nat.lt_of_lt_of_le hQ.lt hQ.le
  have hgp : g ≠ pb := by have := hg1; simp at this; omega
  have r2 := hQ.c2
  clear hQ q2 q3 q4 cB cC hc
  go_wp2
  go_loopw [14, 15, 16] (fun i _ _ wr => ∃ (j : Nat) (ls : List (List M.Ch)) (v : Value), i = .int .i64 j ∧ j ≤ ps.length ∧ ls.length = j ∧ wr.cell? ⟨pb, 2, none⟩ = some v ∧ GroupsAt wr w1.heap.size v ls ∧ Kept w1 wr pb ∧ Hid (preG ps j ls)) (fun i _ _ _ => ps.length - (intOf i).toNat)
  case atStart => exact ⟨0, [], _, rfl, Nat.zero_le _, rfl, r2, GroupsAt.nil _ _, Kept.refl _ _, rfl⟩
  case round =>
    obtain ⟨j, ls, v, rfl, hj, hlj, hv, hG, hK, HR⟩ := hrel
    by_cases hlt : j < ps.length
    · have cj : wr.cell? ⟨g, j, none⟩ = some (.string ps[j]) := (hK.cells g j hg2 hgp).1.trans (HC.out j hlt)
      have hpk : ps[j].size ≤ 100000 := HZ.out _ (List.getElem_mem hlt)
      have cK : ∀ wx, Calls Tryz.prog 62 #[.string ps[j], .string ⟨#[32, 124, 32]⟩, .int .i64 3] wx fun e w' => ∃ v l, e = .returned (.tuple #[v, .bool (groupB ps[j]).isSome]) ∧
          w'.ownsRow wx.heap.size 125 3 v l.length (chsCells l) ∧ (∀ x, groupB ps[j] = some x → x = l) ∧ l.length ≤ ps[j].size + 1 ∧ Below wx.heap.size wx w' := fun wx => choices_any ps[j] ⟨#[32, 124, 32]⟩ 3 wx (by decide) hpk (by decide) (by decide)
      cases hgr : groupB ps[j] with
      | none =>
        rw [hgr] at cK
        have HF0 : Hid (M.lineS p k s.data.toList = none) := by show _ = _; rw [HE.out, preG_no HR.out hlt hgr]
        clear hgr
        go_wp2_with fail
        refine (cK _).mono ?_
        rintro e w2 ⟨u, l, rfl, hu, _, _, hB2⟩
        clear cK
        go_wp2
        go_ret
        exact ⟨ret_bool (by rw [HF0.out]; rfl), (fun p' h => by rw [HF0.out] at h; cases h), ((below_same w' _).mono (Nat.le_of_lt hpw')).trans ((hB1.mono (Nat.le_of_lt hpw')).trans (hK.low.trans (hB2.mono (by have := hK.size; omega))))⟩
      | some c =>
        rw [hgr] at cK
        have HGR : Hid (groupB ps[j] = some c) := hgr
        clear hgr
        go_wp2_with fail
        refine (cK _).mono ?_
        rintro e w2 ⟨u, l, rfl, hu, hx, _, hB2⟩
        obtain rfl := hx c rfl
        clear cK hx
        have hKs := hK.size
        have hs2 := hB2.size
        have hv2 : w2.cell? ⟨pb, 2, none⟩ = some v := (hB2.cell (p := ⟨pb, 2, none⟩) (by show pb < _; omega)).trans hv
        have hG2 := hG.below hB2
        obtain ⟨vs, hown, hrows⟩ := hG2
        have HROWS : Hid (∀ (i : Nat) x, ls[i]? = some x → ∃ u, vs[i]? = some u ∧ w2.ownsRow w1.heap.size 125 3 u x.length (chsCells x)) := hrows
        have hf2 : ∀ o, w2.frozen? ⟨pb, o, none⟩ = false := fun o => (hB2.frozen (p := ⟨pb, o, none⟩) (by show pb < _; omega)).trans ((hK.fz o).trans (HQ.out.fz o))
        have hu' := own_base hu hKs
        clear hG hu hrows
        rw [hlj] at hown
        obtain ⟨au, cu, eu⟩ := own_form hu'
        subst eu
        have HU : Hid (w2.ownsRow w1.heap.size 125 3 (.slice au c.length cu) c.length (chsCells c)) := hu'
        clear hu'
        go_wp2_with (at_builtin; refine wpList_append_own _ rfl _ _ 26 rfl w1.heap.size 27 i0 (.slice none 0 0) 1 24 Tryz.underlying26 hi0 hz0 hz1 hz2 rfl (by decide) _ _ _ rfl (hown.alloc _) ⟨w2.heap.size, 0, none⟩ 1 1 [.slice au c.length cu] rfl rfl ?c1 ?c2 ?c3 ?c4 ?c5 ?_)
        case c1 => exact one_new _ _ _
        case c2 => intro x hx; simp at hx; subst hx; rfl
        case c3 => unfold maxLen; omega
        case c4 => omega
        case c5 => simp; omega
        intro v' w3 hown' hgrow _
        have R1 : GroupsAt w3 w1.heap.size v' (ls ++ [c]) := GroupsAt.push (by rw [hlj]; exact hown) HROWS.out HU.out (by rw [hlj]; exact hown') hgrow
        have R2 : Kept w1 (w3.setCell ⟨pb, 2, none⟩ v') pb := hK.push hpw (hB2.alloc hs2 _) (hown.alloc _) hgrow
        have hne : some pb ≠ v.ownBlock := fun h => by have := (hown.lt pb h.symm).1; omega
        have s2 : w3.cell? ⟨pb, 2, none⟩ = some v := (World.cell?_of_block (w := w2.alloc _) (a := ⟨pb, 2, none⟩) (hgrow.block pb (by simp; omega) hne)).trans ((World.cell?_alloc_past _ _ _ (by show pb < _; omega)).trans hv2)
        have s3 : w3.frozen? ⟨pb, 2, none⟩ = false := (World.frozen?_of_block (w := w2.alloc _) (a := ⟨pb, 2, none⟩) (hgrow.block pb (by simp; omega) hne)).trans ((World.frozen?_alloc_past _ _ _ (by show pb < _; omega)).trans (hf2 2))
        clear hgrow hown hK hv hv2 hf2
        obtain ⟨av, cv, ev⟩ := own_form hown'
        subst ev
        clear hown'
        go_wp2
        go_roundw
        case rel => exact ⟨j + 1, ls ++ [c], _, by go_num, by omega, by simp; omega, World.cell?_setCell_same _ _ _ s2, R1.set hpw, R2, preG_go HR.out hlt c HGR.out⟩
        case measure => simp [intOf]; omega
    · have hjj : j = ps.length := by omega
      have HE2 : Hid (M.lineS p k s.data.toList = if ls.length ≤ 3 then some { p with needs := ls } else none) := by
        have h := HR.out
        unfold preG at h
        rw [hjj, List.take_length] at h
        show _ = _
        rw [HE.out, h]
      have hG0 := hG
      obtain ⟨vs, hown, _⟩ := hG0
      obtain ⟨av, cv, ev⟩ := own_form hown
      subst ev
      have HPN : Hid (PAt wr pb wr.heap.size { p with needs := ls } _ _ _) := PAt.needs' HQ.out hK HF.out hv (fun e => by rw [e] at hlj; simp at hlj; omega) hG
      have HKL : Hid (Below pb w1 wr) := hK.low
      clear hown HE HR hG hK
      rw [hlj] at hv
      have hbl : Hid (Below pb w' wr) := ((below_same w' _).mono (Nat.le_of_lt hpw')).trans ((hB1.mono (Nat.le_of_lt hpw')).trans HKL.out)
      go_wp2
      go_ret
      refine ⟨ret_bool ?_, ?_, hbl.out⟩
      · rw [HE2.out]
        by_cases h3 : ls.length ≤ 3
        · rw [if_pos h3]; show decide _ = true; rw [decide_eq_true_iff]; omega
        · rw [if_neg h3]; show decide _ = false; rw [decide_eq_false_iff_not]; omega
      · intro p' hp'
        rw [HE2.out] at hp'
        split at hp'
        · cases hp'; exact ⟨_, _, _, _, HPN.out⟩
        · cases hp'
end Go.Proofs.YtgnfknjopafngaaGreatDoor
