import Derived.Test.YtgnfknjopafngaaGreatDoorFmK
import Derived.Test.YtgnfknjopafngaaGreatDoorFmD
import Derived.Test.YtgnfknjopafngaaGreatDoorFmE
/-
  THE CODE, WALKED: readList of choices.
-/
namespace Go.Proofs.YtgnfknjopafngaaGreatDoor
open Go.RowKit

theorem infoChC : (Tryz.prog.info? 156).map (fun i => (i.zero, i.size, i.bytes)) = some (some (.agg #[.string ⟨#[]⟩, .string ⟨#[]⟩, .string ⟨#[]⟩]), 3, 48) := by kernel_rfl
/-- How far a list has been read. -/
def preF {α : Type} (f : List UInt8 → Option α) (ps : List ByteArray) (k : Nat) (l : List α) : Prop := M.allS f ((ps.take k).map (fun p => p.data.toList)) = some l
theorem preF_go {α : Type} {f : List UInt8 → Option α} {ps : List ByteArray} {k : Nat} {l : List α} (h : preF f ps k l) (hk : k < ps.length) (c : α) (hc : f ps[k].data.toList = some c) : preF f ps (k + 1) (l ++ [c]) := by
  unfold preF at h ⊢
  rw [List.take_succ_eq_append_getElem hk, List.map_append, List.map_cons, List.map_nil, allS_snoc _ _ _ _ h, hc]
  rfl
theorem preF_no {α : Type} {f : List UInt8 → Option α} {ps : List ByteArray} {k : Nat} {l : List α} (h : preF f ps k l) (hk : k < ps.length) (hc : f ps[k].data.toList = none) : M.allS f (ps.map (fun p => p.data.toList)) = none := by
  unfold preF at h
  have e : ps = ps.take (k + 1) ++ ps.drop (k + 1) := (List.take_append_drop _ _).symm
  rw [e, List.map_append]
  apply allS_stop
  rw [List.take_succ_eq_append_getElem hk, List.map_append, List.map_cons, List.map_nil, allS_snoc _ _ _ _ h, hc]
  rfl
/-- What a list's reading leaves. -/
def RowPost {α : Type} (o : Option (List α)) (t size : Nat) (cells : List α → List Value) (w : World) (e : Ending) (w' : World) : Prop :=
  Below w.heap.size w w' ∧ match o with
    | none => Thrown e
    | some l => ∃ v, e = .returned v ∧ w'.ownsRow w.heap.size t size v l.length (cells l)
theorem row_none {α : Type} {o : Option (List α)} {t size : Nat} {cells : List α → List Value} {w : World} {e : Ending} {w' : World} (ho : o = none) (h : Thrown e) (hb : Below w.heap.size w w') : RowPost o t size cells w e w' := by
  subst ho; exact ⟨hb, h⟩
theorem row_some {α : Type} {o : Option (List α)} {t size : Nat} {cells : List α → List Value} {w : World} {v : Value} {w' : World} (l : List α) (ho : o = some l) (h : w'.ownsRow w.heap.size t size v l.length (cells l)) (hb : Below w.heap.size w w') : RowPost o t size cells w (.returned v) w' := by
  subst ho; exact ⟨hb, v, rfl, h⟩
theorem strs_at (w : World) (ps : List ByteArray) (t : TypeId) (j : Nat) (hj : j < ps.length) : (w.alloc (.cells (ps.map Value.string).toArray t)).cell? ⟨w.heap.size, j, none⟩ = some (.string ps[j]) := by
  have := (newB w (ps.map Value.string) t 0).2.2.1 j (.string ps[j]) (by simp [hj])
  exact this

set_option maxRecDepth 100000 in
set_option maxHeartbeats 2000000 in
theorem listChoice_any (s sep : ByteArray) (most : Nat) (w : World) (hw : MaxIs w) (hs : s.size ≤ 100000) (h1 : 1 ≤ sep.size) :
    Calls Tryz.prog 134 #[.string s, .string sep, .int .i64 most, .func (.func 135) #[] #[]] w (RowPost (listC choiceC most s.data.toList sep.data.toList) 156 3 chsCells w) := by
  obtain ⟨i0, hi0, hz0, hz1, hz2⟩ := info_parts infoChC
  obtain ⟨ps, hps⟩ := bytes_list (cutB s sep)
  have hpn : ps.length ≤ s.size + 1 := by
    have := (M.cutS_len s.data.toList sep.data.toList).2
    have e : (cutB s sep).length = ps.length := by rw [hps]; simp
    have : (cutB s sep).length ≤ s.data.toList.length + 1 := this
    simp only [Array.length_toList, ByteArray.size_data] at this
    omega
  have HZ : Hid (∀ p ∈ ps, p.size ≤ s.size) := fun p hp => piece_size hps p hp
  have c1 := split_lib s sep ps w hw (by omega) h1 hps
  have HL : Hid (listC choiceC most s.data.toList sep.data.toList = if ps.length ≤ most then M.allS choiceC (ps.map (fun p => p.data.toList)) else none) := by
    show _ = _
    unfold listC
    rw [show M.cutS s.data.toList sep.data.toList = _ from hps, List.length_map]
  have cY := must_ok
  have cN := must_no
  have eR : ∀ args w, (callFunc 135 args).run Tryz.prog w = .ok (.enter 135 args) w := enters_of Tryz.func135 (by kernel_rfl) rfl
  have hw' : Hid (MaxIs w) := hw
  clear hps hw
  by_cases hm : ps.length ≤ most
  · have hm' : (ps.length : Int) ≤ most := by omega
    clear cN
    go_enter Tryz.func134, Tryz.ntmps134
    go_wp2_with (first | (go_at_call 85; refine c1.mono ?_; rintro e w' ⟨rfl, rfl⟩) | (go_at_call 83; refine (cY _).mono ?_; rintro e w' ⟨rfl, rfl⟩))
    obtain ⟨hB0, hzs, _, _⟩ := newB w (ps.map Value.string) 9 0
    have HC : Hid (∀ j (hj : j < ps.length), (w.alloc (.cells (ps.map Value.string).toArray 9)).cell? ⟨w.heap.size, j, none⟩ = some (.string ps[j])) := fun j hj => strs_at w ps _ j hj
    replace hB0 : Below w.heap.size w (w.alloc (.cells (ps.map Value.string).toArray 9)) := hB0
    replace hzs : (w.alloc (.cells (ps.map Value.string).toArray 9)).heap.size = w.heap.size + 1 := hzs
    generalize w.alloc (.cells (ps.map Value.string).toArray 9) = w1 at hB0 HC hzs ⊢
    have hM1 : Hid (MaxIs w1) := hw'.out.below hB0
    have HS : Hid (w1.heap.size = w.heap.size + 1) := hzs
    clear hzs
    go_loopw [10, 12, 23] (fun v m i wr => ∃ (l : List M.Ch) (k : Nat), i = .int .i64 k ∧ k ≤ ps.length ∧ l.length = k ∧ wr.ownsRow w1.heap.size 156 3 v k (chsCells l) ∧ Below w1.heap.size w1 wr ∧ Hid (preF choiceC ps k l)) (fun _ _ i _ => ps.length - (intOf i).toNat)
    case atStart => exact ⟨[], 0, rfl, Nat.zero_le _, rfl, World.ownsRow_nil _ _ _ _, Below.refl _ _, rfl⟩
    case round =>
      obtain ⟨l, k, rfl, hk, hlk, hown, hBr, HR⟩ := hrel
      have hsr := hBr.size
      by_cases hlt : k < ps.length
      · have ck : wr.cell? ⟨w.heap.size, k, none⟩ = some (.string ps[k]) := (hBr.cell (p := ⟨w.heap.size, k, none⟩) (by show w.heap.size < w1.heap.size; rw [HS.out]; omega)).trans (HC.out k hlt)
        have hpk : ps[k].size ≤ s.size := HZ.out _ (List.getElem_mem hlt)
        have cK := readChoice_any ps[k] wr (hM1.out.below hBr) (by omega)
        cases hch : choiceC ps[k].data.toList with
        | none =>
          rw [hch] at cK
          have HE : Hid (listC choiceC most s.data.toList sep.data.toList = none) := by
            show _ = _
            rw [HL.out, if_pos hm, preF_no HR.out hlt hch]
          clear hch
          replace cK : Calls Tryz.prog 135 #[.string ps[k]] wr fun e w' => Thrown e ∧ Below wr.heap.size wr w' := cK
          go_wp2_with (go_at_fn 135; refine cK.mono ?_; rintro e w2 ⟨rfl, hB2⟩)
          exact ⟨rfl, row_none HE.out rfl (bt hB0 (bt hBr hB2))⟩
        | some c =>
          rw [hch] at cK
          have HC2 : Hid (choiceC ps[k].data.toList = some c) := hch
          clear hch
          replace cK : Calls Tryz.prog 135 #[.string ps[k]] wr fun e w' => e = .returned (.agg #[.string ⟨c.name.toArray⟩, .string ⟨c.sign.toArray⟩, .string ⟨c.ver.toArray⟩]) ∧ Below wr.heap.size wr w' := cK
          go_wp2_with fail
          refine cK.mono ?_
          rintro e w2 ⟨rfl, hB2⟩
          clear cK
          have hown2 := own_below hown hB2
          have hs2 := hB2.size
          go_wp2_with (at_builtin; refine wpList_append_own _ rfl _ _ 105 rfl w1.heap.size 156 i0 (.agg #[.string ⟨#[]⟩, .string ⟨#[]⟩, .string ⟨#[]⟩]) 3 48 Tryz.underlying105 hi0 hz0 hz1 hz2 rfl (by decide) _ _ _ rfl (hown2.alloc _) ⟨w2.heap.size, 0, none⟩ 1 1 [.string ⟨c.name.toArray⟩, .string ⟨c.sign.toArray⟩, .string ⟨c.ver.toArray⟩] rfl rfl ?c1 ?c2 ?c3 ?c4 ?c5 ?_)
          case c1 => exact new_cells _ [.string ⟨c.name.toArray⟩, .string ⟨c.sign.toArray⟩, .string ⟨c.ver.toArray⟩] _
          case c2 => intro u hu; simp at hu; rcases hu with rfl | rfl | rfl <;> rfl
          case c3 => unfold maxLen; omega
          case c4 => omega
          case c5 => simp; omega
          intro v' w3 hown' hgrow _
          have R1 : w3.ownsRow w1.heap.size 156 3 v' (k + 1) (chsCells (l ++ [c])) := by
            rw [chsCells_snoc]; exact hown'
          have R2 : Below w1.heap.size w1 w3 :=
            ((hBr.trans (hB2.mono hsr)).alloc (by omega) _).grown hgrow (by simp; omega) (fun j hj => (hown.lt j hj).1)
          clear hown' hgrow hown hown2
          go_wp2
          go_roundw
          case rel => exact ⟨_, k + 1, by go_num, by omega, by simp; omega, R1, R2, preF_go HR.out hlt c HC2.out⟩
          case measure => simp [intOf]; omega
      · have hkk : k = ps.length := by omega
        have HE : Hid (listC choiceC most s.data.toList sep.data.toList = some l) := by
          have h := HR.out
          unfold preF at h
          rw [hkk, List.take_length] at h
          show _ = _
          rw [HL.out, if_pos hm, h]
        obtain ⟨av, cv, hv⟩ := own_form hown
        subst hv
        clear hkk
        go_wp2
        go_ret
        exact row_some l HE.out (by rw [hlk]; exact own_base hown hB0.size) (bt hB0 hBr)
  · have hm' : ¬ (ps.length : Int) ≤ most := by omega
    have hd : decide ((ps.length : Int) ≤ most) = false := by simp; omega
    have HE : Hid (listC choiceC most s.data.toList sep.data.toList = none) := by show _ = _; rw [HL.out, if_neg hm]
    clear cY
    go_enter Tryz.func134, Tryz.ntmps134
    go_wp2_with (first | (go_at_call 85; refine c1.mono ?_; rintro e w' ⟨rfl, rfl⟩) | (go_at_call 83; refine (cN _).mono ?_; rintro e w' ⟨rfl, rfl⟩))
    exact ⟨rfl, row_none HE.out rfl ((Below.refl _ w).alloc (Nat.le_refl _) _)⟩
end Go.Proofs.YtgnfknjopafngaaGreatDoor
/-
  THE CODE, WALKED: readGroup; readList of groups.
-/
namespace Go.Proofs.YtgnfknjopafngaaGreatDoor
open Go.RowKit

theorem infoGrC : (Tryz.prog.info? 153).map (fun i => (i.zero, i.size, i.bytes)) = some (some (.slice none 0 0), 1, 24) := by kernel_rfl
def groupC (s : List UInt8) : Option (List M.Ch) := listC choiceC 3 s [32, 124, 32]

set_option maxHeartbeats 1000000 in
theorem readGroup_any (s : ByteArray) (w : World) (hw : MaxIs w) (hs : s.size ≤ 100000) :
    Calls Tryz.prog 132 #[.string s] w (RowPost (groupC s.data.toList) 156 3 chsCells w) := by
  have c1 := listChoice_any s ⟨#[32, 124, 32]⟩ 3 w hw hs (by decide)
  have HG : groupC s.data.toList = listC choiceC 3 s.data.toList (ByteArray.mk #[32, 124, 32]).data.toList := rfl
  rw [← HG] at c1
  cases ho : groupC s.data.toList with
  | none =>
    rw [ho] at c1
    replace c1 : Calls Tryz.prog 134 #[.string s, .string ⟨#[32, 124, 32]⟩, .int .i64 3, .func (.func 135) #[] #[]] w fun e w' => Thrown e ∧ Below w.heap.size w w' := c1.mono fun e w' h => ⟨h.2, h.1⟩
    go_enter Tryz.func132, Tryz.ntmps132
    go_wp2_with fail
    refine c1.mono ?_
    rintro e w' ⟨rfl, hB⟩
    go_wp2
    exact ⟨rfl, row_none rfl rfl hB⟩
  | some l =>
    rw [ho] at c1
    replace c1 : Calls Tryz.prog 134 #[.string s, .string ⟨#[32, 124, 32]⟩, .int .i64 3, .func (.func 135) #[] #[]] w fun e w' => ∃ a cap, e = .returned (.slice a l.length cap) ∧ w'.ownsRow w.heap.size 156 3 (.slice a l.length cap) l.length (chsCells l) ∧ Below w.heap.size w w' := c1.mono fun e w' h => by
      obtain ⟨h1, u, h2, h3⟩ := h
      obtain ⟨a, cap, rfl⟩ := own_form h3
      exact ⟨a, cap, h2, h3, h1⟩
    go_enter Tryz.func132, Tryz.ntmps132
    go_wp2_with fail
    refine c1.mono ?_
    rintro e w' ⟨a, cap, rfl, ho, hB⟩
    go_wp2
    go_ret
    exact row_some l rfl ho hB

/-- The groups that were read, in memory. -/
def GrpsAt (w : World) (B : Nat) (v : Value) (ls : List (List M.Ch)) : Prop :=
  ∃ vs : List Value, w.ownsRow B 153 1 v ls.length vs ∧ ∀ (i : Nat) x, ls[i]? = some x → ∃ u, vs[i]? = some u ∧ w.ownsRow B 156 3 u x.length (chsCells x)
theorem GrpsAt.nil (w : World) (B : Nat) : GrpsAt w B (.slice none 0 0) [] := ⟨[], World.ownsRow_nil _ _ _ _, fun i x h => by simp at h⟩
theorem GrpsAt.below {w w' : World} {B : Nat} {v : Value} {ls : List (List M.Ch)} (h : GrpsAt w B v ls) (hb : Below w.heap.size w w') : GrpsAt w' B v ls := by
  obtain ⟨vs, h1, h2⟩ := h
  exact ⟨vs, own_below h1 hb, fun i x hx => by obtain ⟨u, a, b⟩ := h2 i x hx; exact ⟨u, a, own_below b hb⟩⟩
theorem GrpsAt.set {w : World} {B b o : Nat} {v x : Value} {ls : List (List M.Ch)} (h : GrpsAt w B v ls) (hb : b < B) : GrpsAt (w.setCell ⟨b, o, none⟩ x) B v ls := by
  obtain ⟨vs, h1, h2⟩ := h
  exact ⟨vs, ownsRow_setCell_below h1 hb _, fun i y hy => by obtain ⟨u, a, c⟩ := h2 i y hy; exact ⟨u, a, ownsRow_setCell_below c hb _⟩⟩
theorem GrpsAt.needs {w : World} {B lo : Nat} {v : Value} {ls : List (List M.Ch)} (h : GrpsAt w B v ls) (hl : lo ≤ B) : NeedsIn w lo w.heap.size v ls := by
  obtain ⟨vs, h1, h2⟩ := h
  refine ⟨vs, (RowIn.own h1).wide hl (Nat.le_refl _), by have := h1.1; omega, fun i x hx => ?_⟩
  obtain ⟨u, a, b⟩ := h2 i x hx
  exact ⟨u, a, (RowIn.own b).wide hl (Nat.le_refl _)⟩
/-- One group more. -/
theorem GrpsAt.push {w w1 : World} {B : Nat} {v v' u : Value} {ls : List (List M.Ch)} {l : List M.Ch} {vs : List Value} {o : Obj} (h1 : w.ownsRow B 153 1 v ls.length vs)
    (h2 : ∀ (i : Nat) x, ls[i]? = some x → ∃ u, vs[i]? = some u ∧ w.ownsRow B 156 3 u x.length (chsCells x))
    (hu : w.ownsRow B 156 3 u l.length (chsCells l)) (ho : w1.ownsRow B 153 1 v' (ls.length + 1) (vs ++ [u])) (hg : (w.alloc o).grownBy w1 v.ownBlock) : GrpsAt w1 B v' (ls ++ [l]) := by
  have keep : ∀ {x : Value} {n : Nat} {ys : List Value}, w.ownsRow B 156 3 x n ys → w1.ownsRow B 156 3 x n ys := fun hx =>
    (hx.alloc o).kept hg (own_apart h1 hx (by decide))
  have hl : vs.length = ls.length := by have := h1.1; omega
  refine ⟨vs ++ [u], by simpa using ho, fun i x hx => ?_⟩
  by_cases hi : i < ls.length
  · rw [List.getElem?_append_left hi] at hx
    obtain ⟨y, a, b⟩ := h2 i x hx
    exact ⟨y, by rw [List.getElem?_append_left (by omega)]; exact a, keep b⟩
  · rw [List.getElem?_append_right (by omega)] at hx
    have hi0 : i - ls.length = 0 := by
      by_cases e : i - ls.length = 0
      · exact e
      · rw [List.getElem?_eq_none (by simp; omega)] at hx; cases hx
    rw [hi0] at hx
    simp at hx
    subst hx
    exact ⟨u, by rw [List.getElem?_append_right (by omega), hl, hi0]; rfl, keep hu⟩

theorem GrpsAt.form {w : World} {B : Nat} {v : Value} {ls : List (List M.Ch)} (h : GrpsAt w B v ls) : ∃ a cap, v = .slice a ls.length cap := by
  obtain ⟨vs, h1, _⟩ := h; exact own_form h1
theorem GrpsAt.base {w : World} {B B' : Nat} {v : Value} {ls : List (List M.Ch)} (h : GrpsAt w B v ls) (hB : B' ≤ B) : GrpsAt w B' v ls := by
  obtain ⟨vs, h1, h2⟩ := h
  exact ⟨vs, own_base h1 hB, fun i x hx => by obtain ⟨u, a, b⟩ := h2 i x hx; exact ⟨u, a, own_base b hB⟩⟩
/-- What the reading of groups leaves. -/
def GrpPost (o : Option (List (List M.Ch))) (w : World) (e : Ending) (w' : World) : Prop :=
  Below w.heap.size w w' ∧ match o with
    | none => Thrown e
    | some l => ∃ v, e = .returned v ∧ GrpsAt w' w.heap.size v l
theorem grp_none {o : Option (List (List M.Ch))} {w : World} {e : Ending} {w' : World} (ho : o = none) (h : Thrown e) (hb : Below w.heap.size w w') : GrpPost o w e w' := by
  subst ho; exact ⟨hb, h⟩
theorem grp_some {o : Option (List (List M.Ch))} {w : World} {v : Value} {w' : World} (l : List (List M.Ch)) (ho : o = some l) (h : GrpsAt w' w.heap.size v l) (hb : Below w.heap.size w w') : GrpPost o w (.returned v) w' := by
  subst ho; exact ⟨hb, v, rfl, h⟩

set_option maxRecDepth 100000 in
set_option maxHeartbeats 2000000 in
theorem listGroup_any (s sep : ByteArray) (most : Nat) (w : World) (hw : MaxIs w) (hs : s.size ≤ 100000) (h1 : 1 ≤ sep.size) :
    Calls Tryz.prog 131 #[.string s, .string sep, .int .i64 most, .func (.func 132) #[] #[]] w (GrpPost (listC groupC most s.data.toList sep.data.toList) w) := by
  obtain ⟨i0, hi0, hz0, hz1, hz2⟩ := info_parts infoGrC
  obtain ⟨ps, hps⟩ := bytes_list (cutB s sep)
  have hpn : ps.length ≤ s.size + 1 := by
    have := (M.cutS_len s.data.toList sep.data.toList).2
    have e : (cutB s sep).length = ps.length := by rw [hps]; simp
    have : (cutB s sep).length ≤ s.data.toList.length + 1 := this
    simp only [Array.length_toList, ByteArray.size_data] at this
    omega
  have HZ : Hid (∀ p ∈ ps, p.size ≤ s.size) := fun p hp => piece_size hps p hp
  have c1 := split_lib s sep ps w hw (by omega) h1 hps
  have HL : Hid (listC groupC most s.data.toList sep.data.toList = if ps.length ≤ most then M.allS groupC (ps.map (fun p => p.data.toList)) else none) := by
    show _ = _
    unfold listC
    rw [show M.cutS s.data.toList sep.data.toList = _ from hps, List.length_map]
  have cY := must_ok
  have cN := must_no
  have eR : ∀ args w, (callFunc 132 args).run Tryz.prog w = .ok (.enter 132 args) w := enters_of Tryz.func132 (by kernel_rfl) rfl
  have hw' : Hid (MaxIs w) := hw
  clear hps hw
  by_cases hm : ps.length ≤ most
  · have hm' : (ps.length : Int) ≤ most := by omega
    clear cN
    go_enter Tryz.func131, Tryz.ntmps131
    go_wp2_with (first | (go_at_call 85; refine c1.mono ?_; rintro e w' ⟨rfl, rfl⟩) | (go_at_call 83; refine (cY _).mono ?_; rintro e w' ⟨rfl, rfl⟩))
    obtain ⟨hB0, hzs, _, _⟩ := newB w (ps.map Value.string) 9 0
    have HC : Hid (∀ j (hj : j < ps.length), (w.alloc (.cells (ps.map Value.string).toArray 9)).cell? ⟨w.heap.size, j, none⟩ = some (.string ps[j])) := fun j hj => strs_at w ps _ j hj
    replace hB0 : Below w.heap.size w (w.alloc (.cells (ps.map Value.string).toArray 9)) := hB0
    replace hzs : (w.alloc (.cells (ps.map Value.string).toArray 9)).heap.size = w.heap.size + 1 := hzs
    generalize w.alloc (.cells (ps.map Value.string).toArray 9) = w1 at hB0 HC hzs ⊢
    have hM1 : Hid (MaxIs w1) := hw'.out.below hB0
    have HS : Hid (w1.heap.size = w.heap.size + 1) := hzs
    clear hzs
    go_loopw [10, 12, 23] (fun v m i wr => ∃ (l : List (List M.Ch)) (k : Nat), i = .int .i64 k ∧ k ≤ ps.length ∧ l.length = k ∧ GrpsAt wr w1.heap.size v l ∧ Below w1.heap.size w1 wr ∧ Hid (preF groupC ps k l)) (fun _ _ i _ => ps.length - (intOf i).toNat)
    case atStart => exact ⟨[], 0, rfl, Nat.zero_le _, rfl, GrpsAt.nil _ _, Below.refl _ _, rfl⟩
    case round =>
      obtain ⟨l, k, rfl, hk, hlk, hG, hBr, HR⟩ := hrel
      have hsr := hBr.size
      by_cases hlt : k < ps.length
      · have ck : wr.cell? ⟨w.heap.size, k, none⟩ = some (.string ps[k]) := (hBr.cell (p := ⟨w.heap.size, k, none⟩) (by show w.heap.size < w1.heap.size; rw [HS.out]; omega)).trans (HC.out k hlt)
        have hpk : ps[k].size ≤ s.size := HZ.out _ (List.getElem_mem hlt)
        have cK := readGroup_any ps[k] wr (hM1.out.below hBr) (by omega)
        cases hch : groupC ps[k].data.toList with
        | none =>
          rw [hch] at cK
          have HE : Hid (listC groupC most s.data.toList sep.data.toList = none) := by
            show _ = _
            rw [HL.out, if_pos hm, preF_no HR.out hlt hch]
          clear hch
          replace cK : Calls Tryz.prog 132 #[.string ps[k]] wr fun e w' => Thrown e ∧ Below wr.heap.size wr w' := cK.mono fun e w' h => ⟨h.2, h.1⟩
          go_wp2_with (go_at_fn 132; refine cK.mono ?_; rintro e w2 ⟨rfl, hB2⟩)
          exact ⟨rfl, grp_none HE.out rfl (bt hB0 (bt hBr hB2))⟩
        | some c =>
          rw [hch] at cK
          have HC2 : Hid (groupC ps[k].data.toList = some c) := hch
          clear hch
          replace cK : Calls Tryz.prog 132 #[.string ps[k]] wr fun e w' => ∃ u, e = .returned u ∧ w'.ownsRow wr.heap.size 156 3 u c.length (chsCells c) ∧ Below wr.heap.size wr w' := cK.mono fun e w' h => by
            obtain ⟨h1, u, h2, h3⟩ := h
            exact ⟨u, h2, h3, h1⟩
          go_wp2_with fail
          refine cK.mono ?_
          rintro e w2 ⟨u, rfl, hu, hB2⟩
          clear cK
          have hs2 := hB2.size
          obtain ⟨vs, hown, hrows⟩ := hG.below hB2
          have HROWS : Hid (∀ (i : Nat) x, l[i]? = some x → ∃ u, vs[i]? = some u ∧ w2.ownsRow w1.heap.size 156 3 u x.length (chsCells x)) := hrows
          have hu' := own_base hu hsr
          clear hG hu hrows
          rw [hlk] at hown
          obtain ⟨au, cu, eu⟩ := own_form hu'
          subst eu
          have HU : Hid (w2.ownsRow w1.heap.size 156 3 (.slice au c.length cu) c.length (chsCells c)) := hu'
          clear hu'
          go_wp2_with (at_builtin; refine wpList_append_own _ rfl _ _ 104 rfl w1.heap.size 153 i0 (.slice none 0 0) 1 24 Tryz.underlying104 hi0 hz0 hz1 hz2 rfl (by decide) _ _ _ rfl (hown.alloc _) ⟨w2.heap.size, 0, none⟩ 1 1 [.slice au c.length cu] rfl rfl ?c1 ?c2 ?c3 ?c4 ?c5 ?_)
          case c1 => exact one_new _ _ _
          case c2 => intro x hx; simp at hx; subst hx; rfl
          case c3 => unfold maxLen; omega
          case c4 => omega
          case c5 => simp; omega
          intro v' w3 hown' hgrow _
          have R1 : GrpsAt w3 w1.heap.size v' (l ++ [c]) := GrpsAt.push (by rw [hlk]; exact hown) HROWS.out HU.out (by rw [hlk]; exact hown') hgrow
          have R2 : Below w1.heap.size w1 w3 :=
            ((hBr.trans (hB2.mono hsr)).alloc (by omega) _).grown hgrow (by simp; omega) (fun j hj => (hown.lt j hj).1)
          clear hown' hgrow hown
          go_wp2
          go_roundw
          case rel => exact ⟨_, k + 1, by go_num, by omega, by simp; omega, R1, R2, preF_go HR.out hlt c HC2.out⟩
          case measure => simp [intOf]; omega
      · have hkk : k = ps.length := by omega
        have HE : Hid (listC groupC most s.data.toList sep.data.toList = some l) := by
          have h := HR.out
          unfold preF at h
          rw [hkk, List.take_length] at h
          show _ = _
          rw [HL.out, if_pos hm, h]
        obtain ⟨av, cv, hv⟩ := hG.form
        subst hv
        clear hkk
        go_wp2
        go_ret
        exact grp_some l HE.out (hG.base hB0.size) (bt hB0 hBr)
  · have hm' : ¬ (ps.length : Int) ≤ most := by omega
    have hd : decide ((ps.length : Int) ≤ most) = false := by simp; omega
    have HE : Hid (listC groupC most s.data.toList sep.data.toList = none) := by show _ = _; rw [HL.out, if_neg hm]
    clear cY
    go_enter Tryz.func131, Tryz.ntmps131
    go_wp2_with (first | (go_at_call 85; refine c1.mono ?_; rintro e w' ⟨rfl, rfl⟩) | (go_at_call 83; refine (cN _).mono ?_; rintro e w' ⟨rfl, rfl⟩))
    exact ⟨rfl, grp_none HE.out rfl ((Below.refl _ w).alloc (Nat.le_refl _) _)⟩
end Go.Proofs.YtgnfknjopafngaaGreatDoor
/-
  THE CODE, WALKED: readList of a path's parts.
-/
namespace Go.Proofs.YtgnfknjopafngaaGreatDoor
open Go.RowKit

def partC (q : List UInt8) : Option (List UInt8) := if isPartS q = true then some q else none
theorem readPart_c (s : ByteArray) (w : World) (hs : s.size ≤ 1000000) :
    Calls Tryz.prog 177 #[.string s] w fun e w' => GivesO (partC s.data.toList) (fun q => .string ⟨q.toArray⟩) e ∧ Below w.heap.size w w' :=
  (readPart_any s w hs).mono fun e w' h => by
    obtain ⟨h1, rfl⟩ := h
    refine ⟨?_, Below.refl _ _⟩
    unfold partC
    have e0 : isPartB s = isPartS s.data.toList := rfl
    by_cases hp : isPartS s.data.toList = true
    · rw [if_pos hp]
      exact gives_val (e0.trans hp) h1
    · rw [if_neg hp]
      exact gives_thr (by rw [e0]; simpa using hp) h1
theorem parts_all : ∀ (l : List (List UInt8)), M.allS partC l = if l.all isPartS = true then some l else none
  | [] => rfl
  | q :: l => by
    simp only [M.allS, partC, parts_all l, List.all_cons, Bool.and_eq_true]
    by_cases h1 : isPartS q = true <;> by_cases h2 : l.all isPartS = true <;> simp [h1, h2]

set_option maxRecDepth 100000 in
set_option maxHeartbeats 2000000 in
theorem listPart_any (s sep : ByteArray) (most : Nat) (w : World) (hw : MaxIs w) (hs : s.size ≤ 100000) (h1 : 1 ≤ sep.size) :
    Calls Tryz.prog 176 #[.string s, .string sep, .int .i64 most, .func (.func 177) #[] #[]] w (RowPost (listC partC most s.data.toList sep.data.toList) 9 1 (List.map strV) w) := by
  obtain ⟨i0, hi0, hz0, hz1, hz2⟩ := info_parts infoStr
  obtain ⟨ps, hps⟩ := bytes_list (cutB s sep)
  have hpn : ps.length ≤ s.size + 1 := by
    have := (M.cutS_len s.data.toList sep.data.toList).2
    have e : (cutB s sep).length = ps.length := by rw [hps]; simp
    have : (cutB s sep).length ≤ s.data.toList.length + 1 := this
    simp only [Array.length_toList, ByteArray.size_data] at this
    omega
  have HZ : Hid (∀ p ∈ ps, p.size ≤ s.size) := fun p hp => piece_size hps p hp
  have c1 := split_lib s sep ps w hw (by omega) h1 hps
  have HL : Hid (listC partC most s.data.toList sep.data.toList = if ps.length ≤ most then M.allS partC (ps.map (fun p => p.data.toList)) else none) := by
    show _ = _
    unfold listC
    rw [show M.cutS s.data.toList sep.data.toList = _ from hps, List.length_map]
  have cY := must_ok
  have cN := must_no
  have eR : ∀ args w, (callFunc 177 args).run Tryz.prog w = .ok (.enter 177 args) w := enters_of Tryz.func177 (by kernel_rfl) rfl
  have hw' : Hid (MaxIs w) := hw
  clear hps hw
  by_cases hm : ps.length ≤ most
  · have hm' : (ps.length : Int) ≤ most := by omega
    clear cN
    go_enter Tryz.func176, Tryz.ntmps176
    go_wp2_with (first | (go_at_call 85; refine c1.mono ?_; rintro e w' ⟨rfl, rfl⟩) | (go_at_call 83; refine (cY _).mono ?_; rintro e w' ⟨rfl, rfl⟩))
    obtain ⟨hB0, hzs, _, _⟩ := newB w (ps.map Value.string) 9 0
    have HC : Hid (∀ j (hj : j < ps.length), (w.alloc (.cells (ps.map Value.string).toArray 9)).cell? ⟨w.heap.size, j, none⟩ = some (.string ps[j])) := fun j hj => strs_at w ps _ j hj
    replace hB0 : Below w.heap.size w (w.alloc (.cells (ps.map Value.string).toArray 9)) := hB0
    replace hzs : (w.alloc (.cells (ps.map Value.string).toArray 9)).heap.size = w.heap.size + 1 := hzs
    generalize w.alloc (.cells (ps.map Value.string).toArray 9) = w1 at hB0 HC hzs ⊢
    have hM1 : Hid (MaxIs w1) := hw'.out.below hB0
    have HS : Hid (w1.heap.size = w.heap.size + 1) := hzs
    clear hzs
    go_loopw [10, 12, 23] (fun v m i wr => ∃ (l : List (List UInt8)) (k : Nat), i = .int .i64 k ∧ k ≤ ps.length ∧ l.length = k ∧ wr.ownsRow w1.heap.size 9 1 v k (l.map strV) ∧ Below w1.heap.size w1 wr ∧ Hid (preF partC ps k l)) (fun _ _ i _ => ps.length - (intOf i).toNat)
    case atStart => exact ⟨[], 0, rfl, Nat.zero_le _, rfl, World.ownsRow_nil _ _ _ _, Below.refl _ _, rfl⟩
    case round =>
      obtain ⟨l, k, rfl, hk, hlk, hown, hBr, HR⟩ := hrel
      have hsr := hBr.size
      by_cases hlt : k < ps.length
      · have ck : wr.cell? ⟨w.heap.size, k, none⟩ = some (.string ps[k]) := (hBr.cell (p := ⟨w.heap.size, k, none⟩) (by show w.heap.size < w1.heap.size; rw [HS.out]; omega)).trans (HC.out k hlt)
        have hpk : ps[k].size ≤ s.size := HZ.out _ (List.getElem_mem hlt)
        have cK := readPart_c ps[k] wr (by omega)
        cases hch : partC ps[k].data.toList with
        | none =>
          rw [hch] at cK
          have HE : Hid (listC partC most s.data.toList sep.data.toList = none) := by
            show _ = _
            rw [HL.out, if_pos hm, preF_no HR.out hlt hch]
          clear hch
          replace cK : Calls Tryz.prog 177 #[.string ps[k]] wr fun e w' => Thrown e ∧ Below wr.heap.size wr w' := cK
          go_wp2_with (go_at_fn 177; refine cK.mono ?_; rintro e w2 ⟨rfl, hB2⟩)
          exact ⟨rfl, row_none HE.out rfl (bt hB0 (bt hBr hB2))⟩
        | some c =>
          rw [hch] at cK
          have HC2 : Hid (partC ps[k].data.toList = some c) := hch
          clear hch
          replace cK : Calls Tryz.prog 177 #[.string ps[k]] wr fun e w' => e = .returned (.string ⟨c.toArray⟩) ∧ Below wr.heap.size wr w' := cK
          go_wp2_with fail
          refine cK.mono ?_
          rintro e w2 ⟨rfl, hB2⟩
          clear cK
          have hown2 := own_below hown hB2
          have hs2 := hB2.size
          go_wp2_with (at_builtin; refine wpList_append_own _ rfl _ _ 43 rfl w1.heap.size 9 i0 (.string ⟨#[]⟩) 1 16 Tryz.underlying43 hi0 hz0 hz1 hz2 rfl (by decide) _ _ _ rfl (hown2.alloc _) ⟨w2.heap.size, 0, none⟩ 1 1 [.string ⟨c.toArray⟩] rfl rfl ?c1 ?c2 ?c3 ?c4 ?c5 ?_)
          case c1 => exact one_new _ _ _
          case c2 => intro u hu; simp at hu; subst hu; rfl
          case c3 => unfold maxLen; omega
          case c4 => omega
          case c5 => simp; omega
          intro v' w3 hown' hgrow _
          have R1 : w3.ownsRow w1.heap.size 9 1 v' (k + 1) ((l ++ [c]).map strV) := by
            rw [List.map_append]; exact hown'
          have R2 : Below w1.heap.size w1 w3 :=
            ((hBr.trans (hB2.mono hsr)).alloc (by omega) _).grown hgrow (by simp; omega) (fun j hj => (hown.lt j hj).1)
          clear hown' hgrow hown hown2
          go_wp2
          go_roundw
          case rel => exact ⟨_, k + 1, by go_num, by omega, by simp; omega, R1, R2, preF_go HR.out hlt c HC2.out⟩
          case measure => simp [intOf]; omega
      · have hkk : k = ps.length := by omega
        have HE : Hid (listC partC most s.data.toList sep.data.toList = some l) := by
          have h := HR.out
          unfold preF at h
          rw [hkk, List.take_length] at h
          show _ = _
          rw [HL.out, if_pos hm, h]
        obtain ⟨av, cv, hv⟩ := own_form hown
        subst hv
        clear hkk
        go_wp2
        go_ret
        exact row_some l HE.out (by rw [hlk]; exact own_base hown hB0.size) (bt hB0 hBr)
  · have hm' : ¬ (ps.length : Int) ≤ most := by omega
    have hd : decide ((ps.length : Int) ≤ most) = false := by simp; omega
    have HE : Hid (listC partC most s.data.toList sep.data.toList = none) := by show _ = _; rw [HL.out, if_neg hm]
    clear cY
    go_enter Tryz.func176, Tryz.ntmps176
    go_wp2_with (first | (go_at_call 85; refine c1.mono ?_; rintro e w' ⟨rfl, rfl⟩) | (go_at_call 83; refine (cN _).mono ?_; rintro e w' ⟨rfl, rfl⟩))
    exact ⟨rfl, row_none HE.out rfl ((Below.refl _ w).alloc (Nat.le_refl _) _)⟩
end Go.Proofs.YtgnfknjopafngaaGreatDoor
