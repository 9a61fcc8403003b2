import Derived.Test.YtgnfknjopafngaaGreatDoorKfg
import Derived.Test.YtgnfknjopafngaaGreatDoorKfi
import Derived.Deep.RegionWith
namespace Go.Proofs.YtgnfknjopafngaaGreatDoor
open Go.RowKit
theorem infoGrC : (Tryz.prog.info? 153).map (fun i => (i.zero, i.size, i.bytes)) = some (some (.slice none 0 0), 1, 24) := by kernel_rfl
def groupC (s : List UInt8) : Option (List M.Ch) := listC choiceC 3 s [32, 124, 32]
set_option maxHeartbeats 1000000 in
theorem readGroup_any (s : ByteArray) (w : World) (hw : MaxIs w) (hs : s.size ≤ 100000) :
    Calls Tryz.prog 132 #[.string s] w (RowPost (groupC s.data.toList) 156 3 chsCells w) := by
  have c1 := listChoice_any s ⟨#[32, 124, 32]⟩ 3 w hw hs (by decide)
  have HG : groupC s.data.toList = listC choiceC 3 s.data.toList (ByteArray.mk #[32, 124, 32]).data.toList := rfl
  rw [← HG] at c1
  cases ho : groupC s.data.toList with
  | none =>
    rw [ho] at c1
    replace c1 : Calls Tryz.prog 134 #[.string s, .string ⟨#[32, 124, 32]⟩, .int .i64 3, .func (.func 135) #[] #[]] w fun e w' => Thrown e ∧ Below w.heap.size w w' := c1.mono fun e w' h => ⟨h.2, h.1⟩
    go_enter Tryz.func132, Tryz.ntmps132
    go_wp2_with fail
    refine c1.mono ?_
    rintro e w' ⟨rfl, hB⟩
    go_wp2
    exact ⟨rfl, row_none rfl rfl hB⟩
  | some l =>
    rw [ho] at c1
    replace c1 : Calls Tryz.prog 134 #[.string s, .string ⟨#[32, 124, 32]⟩, .int .i64 3, .func (.func 135) #[] #[]] w fun e w' => ∃ a cap, e = .returned (.slice a l.length cap) ∧ w'.ownsRow w.heap.size 156 3 (.slice a l.length cap) l.length (chsCells l) ∧ Below w.heap.size w w' := c1.mono fun e w' h => by
      obtain ⟨h1, u, h2, h3⟩ := h
      obtain ⟨a, cap, rfl⟩ := own_form h3
      exact ⟨a, cap, h2, h3, h1⟩
    go_enter Tryz.func132, Tryz.ntmps132
    go_wp2_with fail
    refine c1.mono ?_
    rintro e w' ⟨a, cap, rfl, ho, hB⟩
    go_wp2
    go_ret
    exact row_some l rfl ho hB
def GrpsAt (w : World) (B : Nat) (v : Value) (ls : List (List M.Ch)) : Prop :=
  ∃ vs : List Value, w.ownsRow B 153 1 v ls.length vs ∧ ∀ (i : Nat) x, ls[i]? = some x → ∃ u, vs[i]? = some u ∧ w.ownsRow B 156 3 u x.length (chsCells x)
theorem GrpsAt.nil (w : World) (B : Nat) : GrpsAt w B (.slice none 0 0) [] := ⟨[], World.ownsRow_nil _ _ _ _, fun i x h => by simp at h⟩
theorem GrpsAt.below {w w' : World} {B : Nat} {v : Value} {ls : List (List M.Ch)} (h : GrpsAt w B v ls) (hb : Below w.heap.size w w') : GrpsAt w' B v ls := by
  obtain ⟨vs, h1, h2⟩ := h
  exact ⟨vs, own_below h1 hb, fun i x hx => by obtain ⟨u, a, b⟩ := h2 i x hx; exact ⟨u, a, own_below b hb⟩⟩
theorem GrpsAt.set {w : World} {B b o : Nat} {v x : Value} {ls : List (List M.Ch)} (h : GrpsAt w B v ls) (hb : b < B) : GrpsAt (w.setCell ⟨b, o, none⟩ x) B v ls := by
  obtain ⟨vs, h1, h2⟩ := h
  exact ⟨vs, ownsRow_setCell_below h1 hb _, fun i y hy => by obtain ⟨u, a, c⟩ := h2 i y hy; exact ⟨u, a, ownsRow_setCell_below c hb _⟩⟩
theorem GrpsAt.needs {w : World} {B lo : Nat} {v : Value} {ls : List (List M.Ch)} (h : GrpsAt w B v ls) (hl : lo ≤ B) : NeedsIn w lo w.heap.size v ls := by
  obtain ⟨vs, h1, h2⟩ := h
  refine ⟨vs, (RowIn.own h1).wide hl (Nat.le_refl _), by have := h1.1; omega, fun i x hx => ?_⟩
  obtain ⟨u, a, b⟩ := h2 i x hx
  exact ⟨u, a, (RowIn.own b).wide hl (Nat.le_refl _)⟩
theorem GrpsAt.push {w w1 : World} {B : Nat} {v v' u : Value} {ls : List (List M.Ch)} {l : List M.Ch} {vs : List Value} {o : Obj} (h1 : w.ownsRow B 153 1 v ls.length vs)
    (h2 : ∀ (i : Nat) x, ls[i]? = some x → ∃ u, vs[i]? = some u ∧ w.ownsRow B 156 3 u x.length (chsCells x))
    (hu : w.ownsRow B 156 3 u l.length (chsCells l)) (ho : w1.ownsRow B 153 1 v' (ls.length + 1) (vs ++ [u])) (hg : (w.alloc o).grownBy w1 v.ownBlock) : GrpsAt w1 B v' (ls ++ [l]) := by
  have keep : ∀ {x : Value} {n : Nat} {ys : List Value}, w.ownsRow B 156 3 x n ys → w1.ownsRow B 156 3 x n ys := fun hx =>
    (hx.alloc o).kept hg (own_apart h1 hx (by decide))
  have hl : vs.length = ls.length := by have := h1.1; omega
  refine ⟨vs ++ [u], by simpa using ho, fun i x hx => ?_⟩
  by_cases hi : i < ls.length
  · rw [List.getElem?_append_left hi] at hx
    obtain ⟨y, a, b⟩ := h2 i x hx
    exact ⟨y, by rw [List.getElem?_append_left (by omega)]; exact a, keep b⟩
  · rw [List.getElem?_append_right (by omega)] at hx
    have hi0 : i - ls.length = 0 := by
      by_cases e : i - ls.length = 0
      · exact e
      · rw [List.getElem?_eq_none (by simp; omega)] at hx; cases hx
    rw [hi0] at hx
    simp at hx
    subst hx
    exact ⟨u, by rw [List.getElem?_append_right (by omega), hl, hi0]; rfl, keep hu⟩
theorem GrpsAt.form {w : World} {B : Nat} {v : Value} {ls : List (List M.Ch)} (h : GrpsAt w B v ls) : ∃ a cap, v = .slice a ls.length cap := by
  obtain ⟨vs, h1, _⟩ := h; exact own_form h1
theorem GrpsAt.base {w : World} {B B' : Nat} {v : Value} {ls : List (List M.Ch)} (h : GrpsAt w B v ls) (hB : B' ≤ B) : GrpsAt w B' v ls := by
  obtain ⟨vs, h1, h2⟩ := h
  exact ⟨vs, own_base h1 hB, fun i x hx => by obtain ⟨u, a, b⟩ := h2 i x hx; exact ⟨u, a, own_base b hB⟩⟩
def GrpPost (o : Option (List (List M.Ch))) (w : World) (e : Ending) (w' : World) : Prop :=
  Below w.heap.size w w' ∧ match o with
    | none => Thrown e
    | some l => ∃ v, e = .returned v ∧ GrpsAt w' w.heap.size v l
theorem grp_none {o : Option (List (List M.Ch))} {w : World} {e : Ending} {w' : World} (ho : o = none) (h : Thrown e) (hb : Below w.heap.size w w') : GrpPost o w e w' := by
  subst ho; exact ⟨hb, h⟩
theorem grp_some {o : Option (List (List M.Ch))} {w : World} {v : Value} {w' : World} (l : List (List M.Ch)) (ho : o = some l) (h : GrpsAt w' w.heap.size v l) (hb : Below w.heap.size w w') : GrpPost o w (.returned v) w' := by
  subst ho; exact ⟨hb, v, rfl, h⟩
set_option maxRecDepth 100000 in
set_option maxHeartbeats 2000000 in
theorem listGroup_any (s sep : ByteArray) (most : Nat) (w : World) (hw : MaxIs w) (hs : s.size ≤ 100000) (h1 : 1 ≤ sep.size) :
    Calls Tryz.prog 131 #[.string s, .string sep, .int .i64 most, .func (.func 132) #[] #[]] w (GrpPost (listC groupC most s.data.toList sep.data.toList) w) := by
  obtain ⟨i0, hi0, hz0, hz1, hz2⟩ := info_parts infoGrC
  obtain ⟨ps, hps⟩ := bytes_list (cutB s sep)
  have hpn : ps.length ≤ s.size + 1 := by
    have := (M.cutS_len s.data.toList sep.data.toList).2
    have e : (cutB s sep).length = ps.length := by rw [hps]; simp
    have : (cutB s sep).length ≤ s.data.toList.length + 1 := this
    simp only [Array.length_toList, ByteArray.size_data] at this
    omega
  have HZ : Hid (∀ p ∈ ps, p.size ≤ s.size) := fun p hp => piece_size hps p hp
  have c1 := split_lib s sep ps w hw (by omega) h1 hps
  have HL : Hid (listC groupC most s.data.toList sep.data.toList = if ps.length ≤ most then M.allS groupC (ps.map (fun p => p.data.toList)) else none) := by
    show _ = _
    unfold listC
    rw [show M.cutS s.data.toList sep.data.toList = _ from hps, List.length_map]
  have cY := must_ok
  have cN := must_no
  have eR : ∀ args w, (callFunc 132 args).run Tryz.prog w = .ok (.enter 132 args) w := enters_of Tryz.func132 (by kernel_rfl) rfl
  have hw' : Hid (MaxIs w) := hw
  clear hps hw
  by_cases hm : ps.length ≤ most
  · have hm' : (ps.length : Int) ≤ most := by omega
    clear cN
    go_enter Tryz.func131, Tryz.ntmps131
    go_wp2_with (first | (go_at_call 85; refine c1.mono ?_; rintro e w' ⟨rfl, rfl⟩) | (go_at_call 83; refine (cY _).mono ?_; rintro e w' ⟨rfl, rfl⟩))
    obtain ⟨hB0, hzs, _, _⟩ := newB w (ps.map Value.string) 9 0
    have HC : Hid (∀ j (hj : j < ps.length), (w.alloc (.cells (ps.map Value.string).toArray 9)).cell? ⟨w.heap.size, j, none⟩ = some (.string ps[j])) := fun j hj => strs_at w ps _ j hj
    replace hB0 : Below w.heap.size w (w.alloc (.cells (ps.map Value.string).toArray 9)) := hB0
    replace hzs : (w.alloc (.cells (ps.map Value.string).toArray 9)).heap.size = w.heap.size + 1 := hzs
    generalize w.alloc (.cells (ps.map Value.string).toArray 9) = w1 at hB0 HC hzs ⊢
    have hM1 : Hid (MaxIs w1) := hw'.out.below hB0
    have HS : Hid (w1.heap.size = w.heap.size + 1) := hzs
    clear hzs
    go_loopw [10, 12, 23] (fun v m i wr => ∃ (l : List (List M.Ch)) (k : Nat), i = .int .i64 k ∧ k ≤ ps.length ∧ l.length = k ∧ GrpsAt wr w1.heap.size v l ∧ Below w1.heap.size w1 wr ∧ Hid (preF groupC ps k l)) (fun _ _ i _ => ps.length - (intOf i).toNat)
    case atStart => exact ⟨[], 0, rfl, Nat.zero_le _, rfl, GrpsAt.nil _ _, Below.refl _ _, rfl⟩
    case round =>
      obtain ⟨l, k, rfl, hk, hlk, hG, hBr, HR⟩ := hrel
      have hsr := hBr.size
      by_cases hlt : k < ps.length
      · have ck : wr.cell? ⟨w.heap.size, k, none⟩ = some (.string ps[k]) := (hBr.cell (p := ⟨w.heap.size, k, none⟩) (by show w.heap.size < w1.heap.size; rw [HS.out]; omega)).trans (HC.out k hlt)
        have hpk : ps[k].size ≤ s.size := HZ.out _ (List.getElem_mem hlt)
        have cK := readGroup_any ps[k] wr (hM1.out.below hBr) (by omega)
        cases hch : groupC ps[k].data.toList with
        | none =>
          rw [hch] at cK
          have HE : Hid (listC groupC most s.data.toList sep.data.toList = none) := by
            show _ = _
            rw [HL.out, if_pos hm, preF_no HR.out hlt hch]
          clear hch
          replace cK : Calls Tryz.prog 132 #[.string ps[k]] wr fun e w' => Thrown e ∧ Below wr.heap.size wr w' := cK.mono fun e w' h => ⟨h.2, h.1⟩
          go_wp2_with (go_at_fn 132; refine cK.mono ?_; rintro e w2 ⟨rfl, hB2⟩)
          exact ⟨rfl, grp_none HE.out rfl (bt hB0 (bt hBr hB2))⟩
        | some c =>
          rw [hch] at cK
          have HC2 : Hid (groupC ps[k].data.toList = some c) := hch
          clear hch
          replace cK : Calls Tryz.prog 132 #[.string ps[k]] wr fun e w' => ∃ u, e = .returned u ∧ w'.ownsRow wr.heap.size 156 3 u c.length (chsCells c) ∧ Below wr.heap.size wr w' := cK.mono fun e w' h => by
            obtain ⟨h1, u, h2, h3⟩ := h
            exact ⟨u, h2, h3, h1⟩
          go_wp2_with fail
          refine cK.mono ?_
          rintro e w2 ⟨u, rfl, hu, hB2⟩
          clear cK
          have hs2 := hB2.size
          obtain ⟨vs, hown, hrows⟩ := hG.below hB2
          have HROWS : Hid (∀ (i : Nat) x, l[i]? = some x → ∃ u, vs[i]? = some u ∧ w2.ownsRow w1.heap.size 156 3 u x.length (chsCells x)) := hrows
          have hu' := own_base hu hsr
          clear hG hu hrows
          rw [hlk] at hown
          obtain ⟨au, cu, eu⟩ := own_form hu'
          subst eu
          have HU : Hid (w2.ownsRow w1.heap.size 156 3 (.slice au c.length cu) c.length (chsCells c)) := hu'
          clear hu'
          go_wp2_with (at_builtin; refine wpList_append_own _ rfl _ _ 104 rfl w1.heap.size 153 i0 (.slice none 0 0) 1 24 Tryz.underlying104 hi0 hz0 hz1 hz2 rfl (by decide) _ _ _ rfl (hown.alloc _) ⟨w2.heap.size, 0, none⟩ 1 1 [.slice au c.length cu] rfl rfl ?c1 ?c2 ?c3 ?c4 ?c5 ?_)
          case c1 => exact one_new _ _ _
          case c2 => intro x hx; simp at hx; subst hx; rfl
          case c3 => unfold maxLen; omega
          case c4 => omega
          case c5 => simp; omega
          intro v' w3 hown' hgrow _
          have R1 : GrpsAt w3 w1.heap.size v' (l ++ [c]) := GrpsAt.push (by rw [hlk]; exact hown) HROWS.out HU.out (by rw [hlk]; exact hown') hgrow
          have R2 : Below w1.heap.size w1 w3 :=
            ((hBr.trans (hB2.mono hsr)).alloc (by omega) _).grown hgrow (by simp; omega) (fun j hj => (hown.lt j hj).1)
          clear hown' hgrow hown
          go_wp2
          go_roundw
          case rel => exact ⟨_, k + 1, by go_num, by omega, by simp; omega, R1, R2, preF_go HR.out hlt c HC2.out⟩
          case measure => simp [intOf]; omega
      · have hkk : k = ps.length := by omega
        have HE : Hid (listC groupC most s.data.toList sep.data.toList = some l) := by
          have h := HR.out
          unfold preF at h
          rw [hkk, List.take_length] at h
          show _ = _
          rw [HL.out, if_pos hm, h]
        obtain ⟨av, cv, hv⟩ := hG.form
        subst hv
        clear hkk
        go_wp2
        go_ret
        exact grp_some l HE.out (hG.base hB0.size) (bt hB0 hBr)
  · have hm' : ¬ (ps.length : Int) ≤ most := by omega
    have hd : decide ((ps.length : Int) ≤ most) = false := by simp; omega
    have HE : Hid (listC groupC most s.data.toList sep.data.toList = none) := by show _ = _; rw [HL.out, if_neg hm]
    clear cY
    go_enter Tryz.func131, Tryz.ntmps131
    go_wp2_with (first | (go_at_call 85; refine c1.mono ?_; rintro e w' ⟨rfl, rfl⟩) | (go_at_call 83; refine (cN _).mono ?_; rintro e w' ⟨rfl, rfl⟩))
    exact ⟨rfl, grp_none HE.out rfl ((Below.refl _ w).alloc (Nat.le_refl _) _)⟩
end Go.Proofs.YtgnfknjopafngaaGreatDoor
namespace Go.Proofs.YtgnfknjopafngaaGreatDoor
open Go.RowKit
structure QAt (w : World) (pb B : Nat) (p : M.Pk) (nv bv fv : Value) : Prop where
  c0 : w.cell? ⟨pb, 0, none⟩ = some (.string ⟨p.name.toArray⟩)
  c1 : w.cell? ⟨pb, 1, none⟩ = some (.string ⟨p.ver.toArray⟩)
  c2 : w.cell? ⟨pb, 2, none⟩ = some nv
  c3 : w.cell? ⟨pb, 3, none⟩ = some bv
  c4 : w.cell? ⟨pb, 4, none⟩ = some fv
  fz : ∀ o, w.frozen? ⟨pb, o, none⟩ = false
  lt : pb < B
  le : B ≤ w.heap.size
  needs : NeedsIn w (pb + 1) B nv p.needs
  bars : RowIn w (pb + 1) B bv p.bars.length (chsCells p.bars)
  files : w.ownsRow B 159 2 fv p.files.length (flsCells p.files)
  nnil : p.needs = [] → nv = .slice none 0 0
  fnil : p.files = [] → fv = .slice none 0 0
def QkAt (w : World) (pb : Nat) (p : M.Pk) : Prop := ∃ B nv bv fv, QAt w pb B p nv bv fv
theorem QAt.below {w w' : World} {pb B : Nat} {p : M.Pk} {nv bv fv : Value} (h : QAt w pb B p nv bv fv) (hb : Below w.heap.size w w') : QAt w' pb B p nv bv fv := by
  have hpb : pb < w.heap.size := Nat.lt_of_lt_of_le h.lt h.le
  have k : ∀ o, w'.cell? ⟨pb, o, none⟩ = w.cell? ⟨pb, o, none⟩ := fun o => hb.cell (p := ⟨pb, o, none⟩) hpb
  have kk : ∀ g o, pb + 1 ≤ g → g < B → CellS w w' g o := fun g o _ hg => belowS hb (Nat.lt_of_lt_of_le hg h.le)
  exact ⟨(k 0).trans h.c0, (k 1).trans h.c1, (k 2).trans h.c2, (k 3).trans h.c3, (k 4).trans h.c4, fun o => (hb.frozen (p := ⟨pb, o, none⟩) hpb).trans (h.fz o), h.lt, Nat.le_trans h.le hb.size, h.needs.keep kk, h.bars.keep kk, own_below h.files hb, h.nnil, h.fnil⟩
theorem QAt.title {w : World} {pb B : Nat} {p : M.Pk} {nv bv fv : Value} (h : QAt w pb B p nv bv fv) (X Y : ByteArray) :
    QAt ((w.setCell ⟨pb, 0, none⟩ (.string X)).setCell ⟨pb, 1, none⟩ (.string Y)) pb B { p with name := X.data.toList, ver := Y.data.toList } nv bv fv := by
  have kk : ∀ g o, pb + 1 ≤ g → g < B → CellS w ((w.setCell ⟨pb, 0, none⟩ (.string X)).setCell ⟨pb, 1, none⟩ (.string Y)) g o := fun g o hg _ => by
    exact ((setS (by omega)).trans (setS (by omega)))
  have k1 : (w.setCell ⟨pb, 0, none⟩ (.string X)).cell? ⟨pb, 1, none⟩ = some (.string ⟨p.ver.toArray⟩) := (cell_set_off _ _ _ _ _ (by decide)).trans h.c1
  refine ⟨?_, ?_, ?_, ?_, ?_, fun o => ?_, h.lt, ?_, h.needs.keep kk, h.bars.keep kk, ?_, h.nnil, h.fnil⟩
  · rw [cell_set_off _ _ _ _ _ (by decide), World.cell?_setCell_same _ _ _ h.c0]
  · rw [World.cell?_setCell_same _ _ _ k1]
  · rw [cell_set_off _ _ _ _ _ (by decide), cell_set_off _ _ _ _ _ (by decide)]; exact h.c2
  · rw [cell_set_off _ _ _ _ _ (by decide), cell_set_off _ _ _ _ _ (by decide)]; exact h.c3
  · rw [cell_set_off _ _ _ _ _ (by decide), cell_set_off _ _ _ _ _ (by decide)]; exact h.c4
  · rw [World.frozen?_setCell, World.frozen?_setCell]; exact h.fz o
  · rw [size_set, size_set]; exact h.le
  · exact ownsRow_setCell_below (ownsRow_setCell_below h.files h.lt _) h.lt _
theorem QAt.bars' {w w1 : World} {pb B : Nat} {p : M.Pk} {nv bv fv v : Value} {l : List M.Ch} (h : QAt w pb B p nv bv fv) (hb : Below w.heap.size w w1) (hf : p.files = [])
    (ho : w1.ownsRow w.heap.size 156 3 v l.length (chsCells l)) : QAt (w1.setCell ⟨pb, 3, none⟩ v) pb w1.heap.size { p with bars := l } nv v fv := by
  have h1 := h.below hb
  have hpb : pb < w.heap.size := Nat.lt_of_lt_of_le h.lt h.le
  have hz := hb.size
  have kk : ∀ g o, pb + 1 ≤ g → g < B → CellS w1 (w1.setCell ⟨pb, 3, none⟩ v) g o := fun g o hg _ => setS (by omega)
  have kk' : ∀ g o, w.heap.size ≤ g → g < w1.heap.size → CellS w1 (w1.setCell ⟨pb, 3, none⟩ v) g o := fun g o hg _ => setS (by omega)
  have e := h.fnil hf
  subst e
  refine ⟨?_, ?_, ?_, ?_, ?_, fun o => ?_, by omega, by rw [size_set]; exact Nat.le_refl _, (h1.needs.keep kk).wide (Nat.le_refl _) h1.le, ((RowIn.own ho).keep kk').wide (by omega) (Nat.le_refl _), ?_, h.nnil, fun _ => rfl⟩
  · rw [cell_set_off _ _ _ _ _ (by decide)]; exact h1.c0
  · rw [cell_set_off _ _ _ _ _ (by decide)]; exact h1.c1
  · rw [cell_set_off _ _ _ _ _ (by decide)]; exact h1.c2
  · rw [World.cell?_setCell_same _ _ _ h1.c3]
  · rw [cell_set_off _ _ _ _ _ (by decide)]; exact h1.c4
  · rw [World.frozen?_setCell]; exact h1.fz o
  · show World.ownsRow _ _ _ _ _ p.files.length (flsCells p.files)
    rw [hf]; exact World.ownsRow_nil _ _ _ _
theorem QAt.needs' {w w1 : World} {pb B : Nat} {p : M.Pk} {nv bv fv v : Value} {l : List (List M.Ch)} (h : QAt w pb B p nv bv fv) (hb : Below w.heap.size w w1) (hf : p.files = []) (hne : l ≠ [])
    (hG : GrpsAt w1 w.heap.size v l) : QAt (w1.setCell ⟨pb, 2, none⟩ v) pb w1.heap.size { p with needs := l } v bv fv := by
  have h1 := h.below hb
  have hpb : pb < w.heap.size := Nat.lt_of_lt_of_le h.lt h.le
  have hz := hb.size
  have kk : ∀ g o, pb + 1 ≤ g → g < B → CellS w1 (w1.setCell ⟨pb, 2, none⟩ v) g o := fun g o hg _ => setS (by omega)
  have kk' : ∀ g o, w.heap.size ≤ g → g < w1.heap.size → CellS w1 (w1.setCell ⟨pb, 2, none⟩ v) g o := fun g o hg _ => setS (by omega)
  have e := h.fnil hf
  subst e
  refine ⟨?_, ?_, ?_, ?_, ?_, fun o => ?_, by omega, by rw [size_set]; exact Nat.le_refl _, ((hG.needs (Nat.le_refl _)).keep kk').wide (by omega) (Nat.le_refl _), (h1.bars.keep kk).wide (Nat.le_refl _) h1.le, ?_, fun e => absurd e hne, fun _ => rfl⟩
  · rw [cell_set_off _ _ _ _ _ (by decide)]; exact h1.c0
  · rw [cell_set_off _ _ _ _ _ (by decide)]; exact h1.c1
  · rw [World.cell?_setCell_same _ _ _ h1.c2]
  · rw [cell_set_off _ _ _ _ _ (by decide)]; exact h1.c3
  · rw [cell_set_off _ _ _ _ _ (by decide)]; exact h1.c4
  · rw [World.frozen?_setCell]; exact h1.fz o
  · show World.ownsRow _ _ _ _ _ p.files.length (flsCells p.files)
    rw [hf]; exact World.ownsRow_nil _ _ _ _
theorem QAt.grown {w wx w2 : World} {pb B : Nat} {p : M.Pk} {nv bv fv : Value} (h : QAt w pb B p nv bv fv) (hb : Below w.heap.size w wx) (hg : wx.grownBy w2 fv.ownBlock) :
    (∀ g o, g < B → CellS w w2 g o ∧ w2.frozen? ⟨g, o, none⟩ = w.frozen? ⟨g, o, none⟩) ∧ w.heap.size ≤ w2.heap.size := by
  have hz := hb.size
  have hz2 := hg.size
  refine ⟨fun g o hgB => ?_, by omega⟩
  have hl := h.le
  have k := grown_keep hg g (by omega) (fun e => by have := (h.files.lt g e.symm).1; omega) o
  exact ⟨(blockS (hg.block g (by omega) (fun e => by have := (h.files.lt g e.symm).1; omega))).trans (belowS hb (by show g < _; omega)), k.2.trans (hb.frozen (p := ⟨g, o, none⟩) (by show g < _; omega))⟩
theorem QAt.files' {w wx w2 : World} {pb B : Nat} {p : M.Pk} {nv bv fv v' : Value} {X Y : ByteArray} (h : QAt w pb B p nv bv fv) (hb : Below w.heap.size w wx) (hg : wx.grownBy w2 fv.ownBlock)
    (ho : w2.ownsRow B 159 2 v' (p.files.length + 1) (flsCells p.files ++ [.string X, .string Y])) :
    QAt (w2.setCell ⟨pb, 4, none⟩ v') pb B { p with files := p.files ++ [⟨X.data.toList, Y.data.toList⟩] } nv bv v' := by
  obtain ⟨hk, hz⟩ := h.grown hb hg
  have hlt := h.lt
  have kk : ∀ g o, pb + 1 ≤ g → g < B → CellS w (w2.setCell ⟨pb, 4, none⟩ v') g o := fun g o hg' hgB => (setS (by omega)).trans (hk g o hgB).1
  refine ⟨?_, ?_, ?_, ?_, ?_, fun o => ?_, hlt, by rw [size_set]; exact Nat.le_trans h.le hz, h.needs.keep kk, h.bars.keep kk, ?_, h.nnil, fun e => by simp at e⟩
  · rw [cell_set_off _ _ _ _ _ (by decide), (hk pb 0 hlt).1.1]; exact h.c0
  · rw [cell_set_off _ _ _ _ _ (by decide), (hk pb 1 hlt).1.1]; exact h.c1
  · rw [cell_set_off _ _ _ _ _ (by decide), (hk pb 2 hlt).1.1]; exact h.c2
  · rw [cell_set_off _ _ _ _ _ (by decide), (hk pb 3 hlt).1.1]; exact h.c3
  · rw [World.cell?_setCell_same _ _ _ ((hk pb 4 hlt).1.1.trans h.c4)]
  · rw [World.frozen?_setCell, (hk pb o hlt).2]; exact h.fz o
  · have e : flsCells (p.files ++ [M.Fl.mk X.data.toList Y.data.toList]) = flsCells p.files ++ [.string X, .string Y] := flsCells_snoc _ _
    show World.ownsRow _ _ _ _ _ (p.files ++ [M.Fl.mk X.data.toList Y.data.toList]).length (flsCells (p.files ++ [M.Fl.mk X.data.toList Y.data.toList]))
    rw [e]
    exact ownsRow_setCell_below (by simpa using ho) hlt _
end Go.Proofs.YtgnfknjopafngaaGreatDoor
namespace Go.Proofs.YtgnfknjopafngaaGreatDoor
open Go.RowKit
def ClPost (o : Option M.Pk) (pb : Nat) (w : World) (e : Ending) (w' : World) : Prop :=
  Below pb w w' ∧ match o with
    | none => Thrown e
    | some p => e = .returned (.tuple #[]) ∧ QkAt w' pb p
theorem cl_none {o : Option M.Pk} {pb : Nat} {w : World} {e : Ending} {w' : World} (ho : o = none) (h : Thrown e) (hb : Below pb w w') : ClPost o pb w e w' := by subst ho; exact ⟨hb, h⟩
theorem cl_some {o : Option M.Pk} {pb : Nat} {w w' : World} (p : M.Pk) (ho : o = some p) (h : QkAt w' pb p) (hb : Below pb w w') : ClPost o pb w (.returned (.tuple #[])) w' := by subst ho; exact ⟨hb, rfl, h⟩
set_option maxRecDepth 100000 in
set_option maxHeartbeats 2000000 in
theorem clTitle_any (s : ByteArray) (w : World) (pb : Nat) (p : M.Pk) (hP : QkAt w pb p) (hw : MaxIs w) (hs : s.size ≤ 100000) :
    Calls Tryz.prog 128 #[.string s, .pointer (some ⟨pb, 0, none⟩)] w (ClPost ((titleC s.data.toList).map fun x => { p with name := x.1, ver := x.2 }) pb w) := by
  obtain ⟨B, nv, bv, fv, hP⟩ := hP
  have c1 := readTitle_any s w hw (by omega)
  have hpb : pb < w.heap.size := Nat.lt_of_lt_of_le hP.lt hP.le
  obtain ⟨O, HO0⟩ : ∃ O, O = (titleC s.data.toList).map fun x => ({ p with name := x.1, ver := x.2 } : M.Pk) := ⟨_, rfl⟩
  rw [← HO0]
  have HO : Hid _ := HO0
  clear HO0
  cases ht : titleC s.data.toList with
  | none =>
    rw [ht] at c1
    have HE : Hid (O = none) := by show _ = _; rw [HO.out, ht]; rfl
    replace c1 : Calls Tryz.prog 129 #[.string s] w fun e w' => Thrown e ∧ Below w.heap.size w w' := c1.mono fun e w' ⟨h1, n, h2⟩ => ⟨h1, by rw [h2]; exact below_same w n⟩
    clear ht HO
    go_enter Tryz.func128, Tryz.ntmps128
    go_wp2_with fail
    refine c1.mono ?_
    rintro e w' ⟨rfl, hB⟩
    go_wp2
    exact ⟨rfl, cl_none HE.out rfl (hB.mono (Nat.le_of_lt hpb))⟩
  | some x =>
    rw [ht] at c1
    have HE : Hid (O = some { p with name := x.1, ver := x.2 }) := by show _ = _; rw [HO.out, ht]; rfl
    replace c1 : Calls Tryz.prog 129 #[.string s] w fun e w' => e = .returned (.tuple #[.string ⟨x.1.toArray⟩, .string ⟨x.2.toArray⟩]) ∧ Below w.heap.size w w' := c1.mono fun e w' ⟨h1, n, h2⟩ => ⟨h1, by rw [h2]; exact below_same w n⟩
    clear ht HO
    go_enter Tryz.func128, Tryz.ntmps128
    go_wp2_with fail
    refine c1.mono ?_
    rintro e w' ⟨rfl, hB⟩
    have hQ := hP.below hB
    have q0 := hQ.c0
    have q1 := hQ.c1
    have qf := hQ.fz
    have HQ : Hid (QAt w' pb B p nv bv fv) := hQ
    clear hQ hP
    go_wp2
    go_end0
    exact cl_some _ HE.out ⟨B, nv, bv, fv, HQ.out.title _ _⟩ (((hB.mono (Nat.le_of_lt hpb)).setCell (Nat.le_refl _) _).setCell (Nat.le_refl _) _)
set_option maxRecDepth 100000 in
set_option maxHeartbeats 2000000 in
theorem clNeeds_any (s : ByteArray) (w : World) (pb : Nat) (p : M.Pk) (hP : QkAt w pb p) (hf : p.files = []) (hw : MaxIs w) (hs : s.size ≤ 100000) :
    Calls Tryz.prog 130 #[.string s, .pointer (some ⟨pb, 0, none⟩)] w (ClPost ((listC groupC 3 s.data.toList [44, 32]).map fun x => { p with needs := x }) pb w) := by
  obtain ⟨B, nv, bv, fv, hP⟩ := hP
  have c1 := listGroup_any s ⟨#[44, 32]⟩ 3 w hw hs (by decide)
  have hpb : pb < w.heap.size := Nat.lt_of_lt_of_le hP.lt hP.le
  obtain ⟨O, HO0⟩ : ∃ O, O = (listC groupC 3 s.data.toList [44, 32]).map fun x => ({ p with needs := x } : M.Pk) := ⟨_, rfl⟩
  rw [← HO0]
  have HO : Hid _ := HO0
  clear HO0
  have el : (ByteArray.mk #[44, 32]).data.toList = [44, 32] := rfl
  rw [el] at c1
  cases ht : listC groupC 3 s.data.toList [44, 32] with
  | none =>
    rw [ht] at c1
    have HE : Hid (O = none) := by show _ = _; rw [HO.out, ht]; rfl
    replace c1 : Calls Tryz.prog 131 #[.string s, .string ⟨#[44, 32]⟩, .int .i64 3, .func (.func 132) #[] #[]] w fun e w' => Thrown e ∧ Below w.heap.size w w' := c1.mono fun e w' h => ⟨h.2, h.1⟩
    clear ht HO
    go_enter Tryz.func130, Tryz.ntmps130
    go_wp2_with fail
    refine c1.mono ?_
    rintro e w' ⟨rfl, hB⟩
    go_wp2
    exact ⟨rfl, cl_none HE.out rfl (hB.mono (Nat.le_of_lt hpb))⟩
  | some x =>
    rw [ht] at c1
    have HE : Hid (O = some { p with needs := x }) := by show _ = _; rw [HO.out, ht]; rfl
    have HN : Hid (x ≠ []) := by intro e; have := (listC_pos ht).1; rw [e] at this; simp at this
    replace c1 : Calls Tryz.prog 131 #[.string s, .string ⟨#[44, 32]⟩, .int .i64 3, .func (.func 132) #[] #[]] w fun e w' => ∃ a cap, e = .returned (.slice a x.length cap) ∧ GrpsAt w' w.heap.size (.slice a x.length cap) x ∧ Below w.heap.size w w' := c1.mono fun e w' h => by
      obtain ⟨h1, u, h2, h3⟩ := h
      obtain ⟨a, cap, rfl⟩ := h3.form
      exact ⟨a, cap, h2, h3, h1⟩
    clear ht HO
    go_enter Tryz.func130, Tryz.ntmps130
    go_wp2_with fail
    refine c1.mono ?_
    rintro e w' ⟨a, cap, rfl, hG, hB⟩
    have hQ := hP.below hB
    have q2 := hQ.c2
    have qf := hQ.fz
    have HQ : Hid (QAt w pb B p nv bv fv) := hP
    clear hQ hP
    go_wp2
    go_end0
    exact cl_some _ HE.out ⟨_, _, _, _, HQ.out.needs' hB hf HN.out hG⟩ ((hB.mono (Nat.le_of_lt hpb)).setCell (Nat.le_refl _) _)
end Go.Proofs.YtgnfknjopafngaaGreatDoor
namespace Go.Proofs.YtgnfknjopafngaaGreatDoor
open Go.RowKit
set_option maxRecDepth 100000 in
set_option maxHeartbeats 2000000 in
theorem clBars_any (s : ByteArray) (w : World) (pb : Nat) (p : M.Pk) (hP : QkAt w pb p) (hf : p.files = []) (hw : MaxIs w) (hs : s.size ≤ 100000) :
    Calls Tryz.prog 133 #[.string s, .pointer (some ⟨pb, 0, none⟩)] w (ClPost ((listC choiceC 3 s.data.toList [44, 32]).map fun x => { p with bars := x }) pb w) := by
  obtain ⟨B, nv, bv, fv, hP⟩ := hP
  have c1 := listChoice_any s ⟨#[44, 32]⟩ 3 w hw hs (by decide)
  have hpb : pb < w.heap.size := Nat.lt_of_lt_of_le hP.lt hP.le
  obtain ⟨O, HO0⟩ : ∃ O, O = (listC choiceC 3 s.data.toList [44, 32]).map fun x => ({ p with bars := x } : M.Pk) := ⟨_, rfl⟩
  rw [← HO0]
  have HO : Hid _ := HO0
  clear HO0
  have el : (ByteArray.mk #[44, 32]).data.toList = [44, 32] := rfl
  rw [el] at c1
  cases ht : listC choiceC 3 s.data.toList [44, 32] with
  | none =>
    rw [ht] at c1
    have HE : Hid (O = none) := by show _ = _; rw [HO.out, ht]; rfl
    replace c1 : Calls Tryz.prog 134 #[.string s, .string ⟨#[44, 32]⟩, .int .i64 3, .func (.func 135) #[] #[]] w fun e w' => Thrown e ∧ Below w.heap.size w w' := c1.mono fun e w' h => ⟨h.2, h.1⟩
    clear ht HO
    go_enter Tryz.func133, Tryz.ntmps133
    go_wp2_with fail
    refine c1.mono ?_
    rintro e w' ⟨rfl, hB⟩
    go_wp2
    exact ⟨rfl, cl_none HE.out rfl (hB.mono (Nat.le_of_lt hpb))⟩
  | some x =>
    rw [ht] at c1
    have HE : Hid (O = some { p with bars := x }) := by show _ = _; rw [HO.out, ht]; rfl
    replace c1 : Calls Tryz.prog 134 #[.string s, .string ⟨#[44, 32]⟩, .int .i64 3, .func (.func 135) #[] #[]] w fun e w' => ∃ a cap, e = .returned (.slice a x.length cap) ∧ w'.ownsRow w.heap.size 156 3 (.slice a x.length cap) x.length (chsCells x) ∧ Below w.heap.size w w' := c1.mono fun e w' h => by
      obtain ⟨h1, u, h2, h3⟩ := h
      obtain ⟨a, cap, rfl⟩ := own_form h3
      exact ⟨a, cap, h2, h3, h1⟩
    clear ht HO
    go_enter Tryz.func133, Tryz.ntmps133
    go_wp2_with fail
    refine c1.mono ?_
    rintro e w' ⟨a, cap, rfl, hG, hB⟩
    have hQ := hP.below hB
    have q3 := hQ.c3
    have qf := hQ.fz
    have HQ : Hid (QAt w pb B p nv bv fv) := hP
    clear hQ hP
    go_wp2
    go_end0
    exact cl_some _ HE.out ⟨_, _, _, _, HQ.out.bars' hB hf hG⟩ ((hB.mono (Nat.le_of_lt hpb)).setCell (Nat.le_refl _) _)
theorem Spare.use {G : Prop} (w : World) (h : G) (_ : wpAny Tryz.prog .any #[] (fun _ _ _ => True) 0 #[] { tmps := #[], defers := [] } w) : G := h
theorem addC_inv {l r : List M.Fl} {t : List UInt8} (h : addC l t = some r) : ∃ f, r = l ++ [f] := by
  unfold addC at h
  split at h
  · cases h
  · split at h
    · cases h; exact ⟨_, rfl⟩
    · cases h
theorem clFiles {w wx w2 : World} {pb B : Nat} {p : M.Pk} {nv bv fv v' : Value} {l : List M.Fl} {t : List UInt8} (h : QAt w pb B p nv bv fv) (hb : Below w.heap.size w wx) (hg : wx.grownBy w2 fv.ownBlock) (ha : addC p.files t = some l)
    (ho : w2.ownsRow B 159 2 v' l.length (flsCells l)) : QAt (w2.setCell ⟨pb, 4, none⟩ v') pb B { p with files := l } nv bv v' := by
  obtain ⟨f, rfl⟩ := addC_inv ha
  rw [flsCells_snoc, List.length_append] at ho
  exact h.files' (X := ⟨f.path.toArray⟩) (Y := ⟨f.content.toArray⟩) hb hg ho
theorem clBelow {w wx w2 : World} {pb B : Nat} {p : M.Pk} {nv bv fv : Value} (h : QAt w pb B p nv bv fv) (hb : Below w.heap.size w wx) (hg : wx.grownBy w2 fv.ownBlock) : Below pb w w2 := by
  have h1 := h.lt
  have h2 := h.le
  exact (hb.mono (by omega)).grown hg (by have := hb.size; omega) (fun j hj => by have := (h.files.lt j hj).1; omega)
theorem fileS_len {t : List UInt8} {f : M.Fl} (h : fileC t = some f) : f.path.length ≤ t.length := by
  unfold fileC at h
  split at h
  · cases h; exact (cut_len t 61).1
  · cases h
set_option maxRecDepth 100000 in
set_option maxHeartbeats 2000000 in
theorem clFile_any (s : ByteArray) (w : World) (pb : Nat) (p : M.Pk) (hP : QkAt w pb p) (hl : p.files.length ≤ 1000000) (hsh : ∀ f ∈ p.files, f.path.length ≤ 100000) (hw : MaxIs w) (hs : s.size ≤ 100000) :
    Calls Tryz.prog 136 #[.string s, .pointer (some ⟨pb, 0, none⟩)] w (ClPost ((addC p.files s.data.toList).map fun x => { p with files := x }) pb w) := by
  obtain ⟨B, nv, bv, fv, hP⟩ := hP
  have c1 := readFile_any s w.drew (hw.drewN 1) hs
  have hpb : pb < w.heap.size := Nat.lt_of_lt_of_le hP.lt hP.le
  obtain ⟨O, HO0⟩ : ∃ O, O = (addC p.files s.data.toList).map fun x => ({ p with files := x } : M.Pk) := ⟨_, rfl⟩
  rw [← HO0]
  have HO : Hid _ := HO0
  clear HO0
  have q4 := hP.c4
  have HP : Hid (QAt w pb B p nv bv fv) := hP
  obtain ⟨af, cf, ef⟩ := own_form hP.files
  subst ef
  have hBd : Below w.heap.size w w.drew := below_same w 1
  clear hP
  cases ht : fileC s.data.toList with
  | none =>
    have HE : Hid (O = none) := by show _ = _; rw [HO.out]; unfold addC; rw [ht]; rfl
    replace c1 : Calls Tryz.prog 138 #[.string s] w.drew fun e w' => Thrown e ∧ Below w.heap.size w w' := c1.mono fun e w' h => ⟨by rw [ht] at h; exact h.1, bt hBd h.2⟩
    clear ht HO
    go_enter Tryz.func136, Tryz.ntmps136
    go_region_with (go_at_call 138; refine c1.mono ?_; rintro e w' ⟨rfl, hB⟩; refine Spare.use w' ⟨rfl, cl_none HE.out rfl (hB.mono (Nat.le_of_lt hpb))⟩ ?_)
    all_goals trivial
  | some f =>
    obtain ⟨P, C⟩ := f
    have hPl : (ByteArray.mk P.toArray).size ≤ 100000 := by
      have := fileS_len ht
      have h2 := len_data s
      have h3 : (ByteArray.mk P.toArray).size = P.length := by rw [← len_data]
      have h4 : P.length ≤ s.data.toList.length := this
      omega
    have HA : Hid (addC p.files s.data.toList = if p.files.length < 4 ∧ (p.files.any fun g => clashS P g.path) = false then some (p.files ++ [⟨P, C⟩]) else none) := by
      show _ = _
      unfold addC
      rw [ht]
    replace c1 : Calls Tryz.prog 138 #[.string s] w.drew fun e w' => e = .returned (.agg #[.string ⟨P.toArray⟩, .string ⟨C.toArray⟩]) ∧ Below w.heap.size w w' := c1.mono fun e w' h => ⟨by rw [ht] at h; exact h.1, bt hBd h.2⟩
    have c2 := fun w' (hb : Below w.heap.size w w') => addFile_any p.files ⟨P.toArray⟩ ⟨C.toArray⟩ B (.slice af p.files.length cf) w' hPl hl (by have := HP.out.le; have := hb.size; omega) (own_below HP.out.files hb) hsh
    have c3 : ∀ w', Below w.heap.size w w' → Calls Tryz.prog 137 #[.slice af p.files.length cf, .agg #[.string ⟨P.toArray⟩, .string ⟨C.toArray⟩]] w' (AddPost (addC p.files s.data.toList) B (.slice af p.files.length cf) w') := fun w' hb => by rw [HA.out]; exact c2 w' hb
    clear c2 ht HA
    cases hadd : addC p.files s.data.toList with
    | none =>
      have HE : Hid (O = none) := by show _ = _; rw [HO.out, hadd]; rfl
      replace c3 : ∀ w', Below w.heap.size w w' → Calls Tryz.prog 137 #[.slice af p.files.length cf, .agg #[.string ⟨P.toArray⟩, .string ⟨C.toArray⟩]] w' fun e w2 => Thrown e ∧ Below w.heap.size w w2 := fun w' hb => (c3 w' hb).mono fun e w2 h => by
        rw [hadd] at h
        exact ⟨h.1, bt hb h.2⟩
      clear hadd HO
      go_enter Tryz.func136, Tryz.ntmps136
      go_region_with (first | (go_at_call 138; refine c1.mono ?_; rintro e w' ⟨rfl, hB⟩; have r4 := (hB.cell (p := ⟨pb, 4, none⟩) hpb).trans q4) | (go_at_call 137; refine (c3 _ hB).mono ?_; rintro e w2 ⟨rfl, hB2⟩; refine Spare.use w2 ⟨rfl, cl_none HE.out rfl (hB2.mono (Nat.le_of_lt hpb))⟩ ?_))
      all_goals trivial
    | some l =>
      have HE : Hid (O = some { p with files := l }) := by show _ = _; rw [HO.out, hadd]; rfl
      have HA : Hid (addC p.files s.data.toList = some l) := hadd
      replace c3 : ∀ w', Below w.heap.size w w' → Calls Tryz.prog 137 #[.slice af p.files.length cf, .agg #[.string ⟨P.toArray⟩, .string ⟨C.toArray⟩]] w' fun e w2 => ∃ av cv wx, e = .returned (.slice av l.length cv) ∧ w2.ownsRow B 159 2 (.slice av l.length cv) l.length (flsCells l) ∧ Below w.heap.size w wx ∧ wx.grownBy w2 (Value.slice af p.files.length cf).ownBlock := fun w' hb => (c3 w' hb).mono fun e w2 h => by
        rw [hadd] at h
        obtain ⟨v', wx, h1, h2, h3, h4⟩ := h
        obtain ⟨av, cv, rfl⟩ := own_form h2
        exact ⟨av, cv, wx, h1, h2, bt hb h3, h4⟩
      clear hadd HO
      go_enter Tryz.func136, Tryz.ntmps136
      go_region_with (first | (go_at_call 138; refine c1.mono ?_; rintro e w' ⟨rfl, hB⟩; have r4 := (hB.cell (p := ⟨pb, 4, none⟩) hpb).trans q4) | (go_at_call 137; refine (c3 _ hB).mono ?_; rintro e w2 ⟨av, cv, wx, rfl, ho, hBx, hgr⟩; have r5 := ((HP.out.grown hBx hgr).1 pb 4 HP.out.lt).1.1.trans q4; have r6 := ((HP.out.grown hBx hgr).1 pb 4 HP.out.lt).2.trans (HP.out.fz 4)))
      all_goals
        go_end0
        refine cl_some _ HE.out ⟨B, nv, bv, _, clFiles HP.out hBx hgr HA.out ho⟩ ?_
        exact (clBelow HP.out hBx hgr).setCell (Nat.le_refl _) _
end Go.Proofs.YtgnfknjopafngaaGreatDoor
