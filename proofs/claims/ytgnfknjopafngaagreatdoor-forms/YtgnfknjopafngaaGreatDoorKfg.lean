import Derived.Test.YtgnfknjopafngaaGreatDoorKfd
import Derived.Test.YtgnfknjopafngaaGreatDoorKff
namespace Go.Proofs.YtgnfknjopafngaaGreatDoor
open Go.RowKit
theorem infoChC : (Tryz.prog.info? 156).map (fun i => (i.zero, i.size, i.bytes)) = some (some (.agg #[.string ⟨#[]⟩, .string ⟨#[]⟩, .string ⟨#[]⟩]), 3, 48) := by kernel_rfl
def preF {α : Type} (f : List UInt8 → Option α) (ps : List ByteArray) (k : Nat) (l : List α) : Prop := M.allS f ((ps.take k).map (fun p => p.data.toList)) = some l
theorem preF_go {α : Type} {f : List UInt8 → Option α} {ps : List ByteArray} {k : Nat} {l : List α} (h : preF f ps k l) (hk : k < ps.length) (c : α) (hc : f ps[k].data.toList = some c) : preF f ps (k + 1) (l ++ [c]) := by
  unfold preF at h ⊢
  rw [List.take_succ_eq_append_getElem hk, List.map_append, List.map_cons, List.map_nil, allS_snoc _ _ _ _ h, hc]
  rfl
theorem preF_no {α : Type} {f : List UInt8 → Option α} {ps : List ByteArray} {k : Nat} {l : List α} (h : preF f ps k l) (hk : k < ps.length) (hc : f ps[k].data.toList = none) : M.allS f (ps.map (fun p => p.data.toList)) = none := by
  unfold preF at h
  have e : ps = ps.take (k + 1) ++ ps.drop (k + 1) := (List.take_append_drop _ _).symm
  rw [e, List.map_append]
  apply allS_stop
  rw [List.take_succ_eq_append_getElem hk, List.map_append, List.map_cons, List.map_nil, allS_snoc _ _ _ _ h, hc]
  rfl
def RowPost {α : Type} (o : Option (List α)) (t size : Nat) (cells : List α → List Value) (w : World) (e : Ending) (w' : World) : Prop :=
  Below w.heap.size w w' ∧ match o with
    | none => Thrown e
    | some l => ∃ v, e = .returned v ∧ w'.ownsRow w.heap.size t size v l.length (cells l)
theorem row_none {α : Type} {o : Option (List α)} {t size : Nat} {cells : List α → List Value} {w : World} {e : Ending} {w' : World} (ho : o = none) (h : Thrown e) (hb : Below w.heap.size w w') : RowPost o t size cells w e w' := by
  subst ho; exact ⟨hb, h⟩
theorem row_some {α : Type} {o : Option (List α)} {t size : Nat} {cells : List α → List Value} {w : World} {v : Value} {w' : World} (l : List α) (ho : o = some l) (h : w'.ownsRow w.heap.size t size v l.length (cells l)) (hb : Below w.heap.size w w') : RowPost o t size cells w (.returned v) w' := by
  subst ho; exact ⟨hb, v, rfl, h⟩
theorem strs_at (w : World) (ps : List ByteArray) (t : TypeId) (j : Nat) (hj : j < ps.length) : (w.alloc (.cells (ps.map Value.string).toArray t)).cell? ⟨w.heap.size, j, none⟩ = some (.string ps[j]) := by
  have := (newB w (ps.map Value.string) t 0).2.2.1 j (.string ps[j]) (by simp [hj])
  exact this
set_option maxRecDepth 100000 in
set_option maxHeartbeats 2000000 in
theorem listChoice_any (s sep : ByteArray) (most : Nat) (w : World) (hw : MaxIs w) (hs : s.size ≤ 100000) (h1 : 1 ≤ sep.size) :
    Calls Tryz.prog 134 #[.string s, .string sep, .int .i64 most, .func (.func 135) #[] #[]] w (RowPost (listC choiceC most s.data.toList sep.data.toList) 156 3 chsCells w) := by
  obtain ⟨i0, hi0, hz0, hz1, hz2⟩ := info_parts infoChC
  obtain ⟨ps, hps⟩ := bytes_list (cutB s sep)
  have hpn : ps.length ≤ s.size + 1 := by
    have := (M.cutS_len s.data.toList sep.data.toList).2
    have e : (cutB s sep).length = ps.length := by rw [hps]; simp
    have : (cutB s sep).length ≤ s.data.toList.length + 1 := this
    simp only [Array.length_toList, ByteArray.size_data] at this
    omega
  have HZ : Hid (∀ p ∈ ps, p.size ≤ s.size) := fun p hp => piece_size hps p hp
  have c1 := split_lib s sep ps w hw (by omega) h1 hps
  have HL : Hid (listC choiceC most s.data.toList sep.data.toList = if ps.length ≤ most then M.allS choiceC (ps.map (fun p => p.data.toList)) else none) := by
    show _ = _
    unfold listC
    rw [show M.cutS s.data.toList sep.data.toList = _ from hps, List.length_map]
  have cY := must_ok
  have cN := must_no
  have eR : ∀ args w, (callFunc 135 args).run Tryz.prog w = .ok (.enter 135 args) w := enters_of Tryz.func135 (by kernel_rfl) rfl
  have hw' : Hid (MaxIs w) := hw
  clear hps hw
  by_cases hm : ps.length ≤ most
  · have hm' : (ps.length : Int) ≤ most := by omega
    clear cN
    go_enter Tryz.func134, Tryz.ntmps134
    go_wp2_with (first | (go_at_call 85; refine c1.mono ?_; rintro e w' ⟨rfl, rfl⟩) | (go_at_call 83; refine (cY _).mono ?_; rintro e w' ⟨rfl, rfl⟩))
    obtain ⟨hB0, hzs, _, _⟩ := newB w (ps.map Value.string) 9 0
    have HC : Hid (∀ j (hj : j < ps.length), (w.alloc (.cells (ps.map Value.string).toArray 9)).cell? ⟨w.heap.size, j, none⟩ = some (.string ps[j])) := fun j hj => strs_at w ps _ j hj
    replace hB0 : Below w.heap.size w (w.alloc (.cells (ps.map Value.string).toArray 9)) := hB0
    replace hzs : (w.alloc (.cells (ps.map Value.string).toArray 9)).heap.size = w.heap.size + 1 := hzs
    generalize w.alloc (.cells (ps.map Value.string).toArray 9) = w1 at hB0 HC hzs ⊢
    have hM1 : Hid (MaxIs w1) := hw'.out.below hB0
    have HS : Hid (w1.heap.size = w.heap.size + 1) := hzs
    clear hzs
    go_loopw [10, 12, 23] (fun v m i wr => ∃ (l : List M.Ch) (k : Nat), i = .int .i64 k ∧ k ≤ ps.length ∧ l.length = k ∧ wr.ownsRow w1.heap.size 156 3 v k (chsCells l) ∧ Below w1.heap.size w1 wr ∧ Hid (preF choiceC ps k l)) (fun _ _ i _ => ps.length - (intOf i).toNat)
    case atStart => exact ⟨[], 0, rfl, Nat.zero_le _, rfl, World.ownsRow_nil _ _ _ _, Below.refl _ _, rfl⟩
    case round =>
      obtain ⟨l, k, rfl, hk, hlk, hown, hBr, HR⟩ := hrel
      have hsr := hBr.size
      by_cases hlt : k < ps.length
      · have ck : wr.cell? ⟨w.heap.size, k, none⟩ = some (.string ps[k]) := (hBr.cell (p := ⟨w.heap.size, k, none⟩) (by show w.heap.size < w1.heap.size; rw [HS.out]; omega)).trans (HC.out k hlt)
        have hpk : ps[k].size ≤ s.size := HZ.out _ (List.getElem_mem hlt)
        have cK := readChoice_any ps[k] wr (hM1.out.below hBr) (by omega)
        cases hch : choiceC ps[k].data.toList with
        | none =>
          rw [hch] at cK
          have HE : Hid (listC choiceC most s.data.toList sep.data.toList = none) := by
            show _ = _
            rw [HL.out, if_pos hm, preF_no HR.out hlt hch]
          clear hch
          replace cK : Calls Tryz.prog 135 #[.string ps[k]] wr fun e w' => Thrown e ∧ Below wr.heap.size wr w' := cK
          go_wp2_with (go_at_fn 135; refine cK.mono ?_; rintro e w2 ⟨rfl, hB2⟩)
          exact ⟨rfl, row_none HE.out rfl (bt hB0 (bt hBr hB2))⟩
        | some c =>
          rw [hch] at cK
          have HC2 : Hid (choiceC ps[k].data.toList = some c) := hch
          clear hch
          replace cK : Calls Tryz.prog 135 #[.string ps[k]] wr fun e w' => e = .returned (.agg #[.string ⟨c.name.toArray⟩, .string ⟨c.sign.toArray⟩, .string ⟨c.ver.toArray⟩]) ∧ Below wr.heap.size wr w' := cK
          go_wp2_with fail
          refine cK.mono ?_
          rintro e w2 ⟨rfl, hB2⟩
          clear cK
          have hown2 := own_below hown hB2
          have hs2 := hB2.size
          go_wp2_with (at_builtin; refine wpList_append_own _ rfl _ _ 105 rfl w1.heap.size 156 i0 (.agg #[.string ⟨#[]⟩, .string ⟨#[]⟩, .string ⟨#[]⟩]) 3 48 Tryz.underlying105 hi0 hz0 hz1 hz2 rfl (by decide) _ _ _ rfl (hown2.alloc _) ⟨w2.heap.size, 0, none⟩ 1 1 [.string ⟨c.name.toArray⟩, .string ⟨c.sign.toArray⟩, .string ⟨c.ver.toArray⟩] rfl rfl ?c1 ?c2 ?c3 ?c4 ?c5 ?_)
          case c1 => exact new_cells _ [.string ⟨c.name.toArray⟩, .string ⟨c.sign.toArray⟩, .string ⟨c.ver.toArray⟩] _
          case c2 => intro u hu; simp at hu; rcases hu with rfl | rfl | rfl <;> rfl
          case c3 => unfold maxLen; omega
          case c4 => omega
          case c5 => simp; omega
          intro v' w3 hown' hgrow _
          have R1 : w3.ownsRow w1.heap.size 156 3 v' (k + 1) (chsCells (l ++ [c])) := by
            rw [chsCells_snoc]; exact hown'
          have R2 : Below w1.heap.size w1 w3 :=
            ((hBr.trans (hB2.mono hsr)).alloc (by omega) _).grown hgrow (by simp; omega) (fun j hj => (hown.lt j hj).1)
          clear hown' hgrow hown hown2
          go_wp2
          go_roundw
          case rel => exact ⟨_, k + 1, by go_num, by omega, by simp; omega, R1, R2, preF_go HR.out hlt c HC2.out⟩
          case measure => simp [intOf]; omega
      · have hkk : k = ps.length := by omega
        have HE : Hid (listC choiceC most s.data.toList sep.data.toList = some l) := by
          have h := HR.out
          unfold preF at h
          rw [hkk, List.take_length] at h
          show _ = _
          rw [HL.out, if_pos hm, h]
        obtain ⟨av, cv, hv⟩ := own_form hown
        subst hv
        clear hkk
        go_wp2
        go_ret
        exact row_some l HE.out (by rw [hlk]; exact own_base hown hB0.size) (bt hB0 hBr)
  · have hm' : ¬ (ps.length : Int) ≤ most := by omega
    have hd : decide ((ps.length : Int) ≤ most) = false := by simp; omega
    have HE : Hid (listC choiceC most s.data.toList sep.data.toList = none) := by show _ = _; rw [HL.out, if_neg hm]
    clear cY
    go_enter Tryz.func134, Tryz.ntmps134
    go_wp2_with (first | (go_at_call 85; refine c1.mono ?_; rintro e w' ⟨rfl, rfl⟩) | (go_at_call 83; refine (cN _).mono ?_; rintro e w' ⟨rfl, rfl⟩))
    exact ⟨rfl, row_none HE.out rfl ((Below.refl _ w).alloc (Nat.le_refl _) _)⟩
end Go.Proofs.YtgnfknjopafngaaGreatDoor
namespace Go.Proofs.YtgnfknjopafngaaGreatDoor
open Go.RowKit
def partC (q : List UInt8) : Option (List UInt8) := if isPartS q = true then some q else none
theorem readPart_c (s : ByteArray) (w : World) (hs : s.size ≤ 1000000) :
    Calls Tryz.prog 177 #[.string s] w fun e w' => GivesO (partC s.data.toList) (fun q => .string ⟨q.toArray⟩) e ∧ Below w.heap.size w w' :=
  (readPart_any s w hs).mono fun e w' h => by
    obtain ⟨h1, rfl⟩ := h
    refine ⟨?_, Below.refl _ _⟩
    unfold partC
    have e0 : isPartB s = isPartS s.data.toList := rfl
    by_cases hp : isPartS s.data.toList = true
    · rw [if_pos hp]
      exact gives_val (e0.trans hp) h1
    · rw [if_neg hp]
      exact gives_thr (by rw [e0]; simpa using hp) h1
theorem parts_all : ∀ (l : List (List UInt8)), M.allS partC l = if l.all isPartS = true then some l else none
  | [] => rfl
  | q :: l => by
    simp only [M.allS, partC, parts_all l, List.all_cons, Bool.and_eq_true]
    by_cases h1 : isPartS q = true <;> by_cases h2 : l.all isPartS = true <;> simp [h1, h2]
set_option maxRecDepth 100000 in
set_option maxHeartbeats 2000000 in
theorem listPart_any (s sep : ByteArray) (most : Nat) (w : World) (hw : MaxIs w) (hs : s.size ≤ 100000) (h1 : 1 ≤ sep.size) :
    Calls Tryz.prog 176 #[.string s, .string sep, .int .i64 most, .func (.func 177) #[] #[]] w (RowPost (listC partC most s.data.toList sep.data.toList) 9 1 (List.map strV) w) := by
  obtain ⟨i0, hi0, hz0, hz1, hz2⟩ := info_parts infoStr
  obtain ⟨ps, hps⟩ := bytes_list (cutB s sep)
  have hpn : ps.length ≤ s.size + 1 := by
    have := (M.cutS_len s.data.toList sep.data.toList).2
    have e : (cutB s sep).length = ps.length := by rw [hps]; simp
    have : (cutB s sep).length ≤ s.data.toList.length + 1 := this
    simp only [Array.length_toList, ByteArray.size_data] at this
    omega
  have HZ : Hid (∀ p ∈ ps, p.size ≤ s.size) := fun p hp => piece_size hps p hp
  have c1 := split_lib s sep ps w hw (by omega) h1 hps
  have HL : Hid (listC partC most s.data.toList sep.data.toList = if ps.length ≤ most then M.allS partC (ps.map (fun p => p.data.toList)) else none) := by
    show _ = _
    unfold listC
    rw [show M.cutS s.data.toList sep.data.toList = _ from hps, List.length_map]
  have cY := must_ok
  have cN := must_no
  have eR : ∀ args w, (callFunc 177 args).run Tryz.prog w = .ok (.enter 177 args) w := enters_of Tryz.func177 (by kernel_rfl) rfl
  have hw' : Hid (MaxIs w) := hw
  clear hps hw
  by_cases hm : ps.length ≤ most
  · have hm' : (ps.length : Int) ≤ most := by omega
    clear cN
    go_enter Tryz.func176, Tryz.ntmps176
    go_wp2_with (first | (go_at_call 85; refine c1.mono ?_; rintro e w' ⟨rfl, rfl⟩) | (go_at_call 83; refine (cY _).mono ?_; rintro e w' ⟨rfl, rfl⟩))
    obtain ⟨hB0, hzs, _, _⟩ := newB w (ps.map Value.string) 9 0
    have HC : Hid (∀ j (hj : j < ps.length), (w.alloc (.cells (ps.map Value.string).toArray 9)).cell? ⟨w.heap.size, j, none⟩ = some (.string ps[j])) := fun j hj => strs_at w ps _ j hj
    replace hB0 : Below w.heap.size w (w.alloc (.cells (ps.map Value.string).toArray 9)) := hB0
    replace hzs : (w.alloc (.cells (ps.map Value.string).toArray 9)).heap.size = w.heap.size + 1 := hzs
    generalize w.alloc (.cells (ps.map Value.string).toArray 9) = w1 at hB0 HC hzs ⊢
    have hM1 : Hid (MaxIs w1) := hw'.out.below hB0
    have HS : Hid (w1.heap.size = w.heap.size + 1) := hzs
    clear hzs
    go_loopw [10, 12, 23] (fun v m i wr => ∃ (l : List (List UInt8)) (k : Nat), i = .int .i64 k ∧ k ≤ ps.length ∧ l.length = k ∧ wr.ownsRow w1.heap.size 9 1 v k (l.map strV) ∧ Below w1.heap.size w1 wr ∧ Hid (preF partC ps k l)) (fun _ _ i _ => ps.length - (intOf i).toNat)
    case atStart => exact ⟨[], 0, rfl, Nat.zero_le _, rfl, World.ownsRow_nil _ _ _ _, Below.refl _ _, rfl⟩
    case round =>
      obtain ⟨l, k, rfl, hk, hlk, hown, hBr, HR⟩ := hrel
      have hsr := hBr.size
      by_cases hlt : k < ps.length
      · have ck : wr.cell? ⟨w.heap.size, k, none⟩ = some (.string ps[k]) := (hBr.cell (p := ⟨w.heap.size, k, none⟩) (by show w.heap.size < w1.heap.size; rw [HS.out]; omega)).trans (HC.out k hlt)
        have hpk : ps[k].size ≤ s.size := HZ.out _ (List.getElem_mem hlt)
        have cK := readPart_c ps[k] wr (by omega)
        cases hch : partC ps[k].data.toList with
        | none =>
          rw [hch] at cK
          have HE : Hid (listC partC most s.data.toList sep.data.toList = none) := by
            show _ = _
            rw [HL.out, if_pos hm, preF_no HR.out hlt hch]
          clear hch
          replace cK : Calls Tryz.prog 177 #[.string ps[k]] wr fun e w' => Thrown e ∧ Below wr.heap.size wr w' := cK
          go_wp2_with (go_at_fn 177; refine cK.mono ?_; rintro e w2 ⟨rfl, hB2⟩)
          exact ⟨rfl, row_none HE.out rfl (bt hB0 (bt hBr hB2))⟩
        | some c =>
          rw [hch] at cK
          have HC2 : Hid (partC ps[k].data.toList = some c) := hch
          clear hch
          replace cK : Calls Tryz.prog 177 #[.string ps[k]] wr fun e w' => e = .returned (.string ⟨c.toArray⟩) ∧ Below wr.heap.size wr w' := cK
          go_wp2_with fail
          refine cK.mono ?_
          rintro e w2 ⟨rfl, hB2⟩
          clear cK
          have hown2 := own_below hown hB2
          have hs2 := hB2.size
          go_wp2_with (at_builtin; refine wpList_append_own _ rfl _ _ 43 rfl w1.heap.size 9 i0 (.string ⟨#[]⟩) 1 16 Tryz.underlying43 hi0 hz0 hz1 hz2 rfl (by decide) _ _ _ rfl (hown2.alloc _) ⟨w2.heap.size, 0, none⟩ 1 1 [.string ⟨c.toArray⟩] rfl rfl ?c1 ?c2 ?c3 ?c4 ?c5 ?_)
          case c1 => exact one_new _ _ _
          case c2 => intro u hu; simp at hu; subst hu; rfl
          case c3 => unfold maxLen; omega
          case c4 => omega
          case c5 => simp; omega
          intro v' w3 hown' hgrow _
          have R1 : w3.ownsRow w1.heap.size 9 1 v' (k + 1) ((l ++ [c]).map strV) := by
            rw [List.map_append]; exact hown'
          have R2 : Below w1.heap.size w1 w3 :=
            ((hBr.trans (hB2.mono hsr)).alloc (by omega) _).grown hgrow (by simp; omega) (fun j hj => (hown.lt j hj).1)
          clear hown' hgrow hown hown2
          go_wp2
          go_roundw
          case rel => exact ⟨_, k + 1, by go_num, by omega, by simp; omega, R1, R2, preF_go HR.out hlt c HC2.out⟩
          case measure => simp [intOf]; omega
      · have hkk : k = ps.length := by omega
        have HE : Hid (listC partC most s.data.toList sep.data.toList = some l) := by
          have h := HR.out
          unfold preF at h
          rw [hkk, List.take_length] at h
          show _ = _
          rw [HL.out, if_pos hm, h]
        obtain ⟨av, cv, hv⟩ := own_form hown
        subst hv
        clear hkk
        go_wp2
        go_ret
        exact row_some l HE.out (by rw [hlk]; exact own_base hown hB0.size) (bt hB0 hBr)
  · have hm' : ¬ (ps.length : Int) ≤ most := by omega
    have hd : decide ((ps.length : Int) ≤ most) = false := by simp; omega
    have HE : Hid (listC partC most s.data.toList sep.data.toList = none) := by show _ = _; rw [HL.out, if_neg hm]
    clear cY
    go_enter Tryz.func176, Tryz.ntmps176
    go_wp2_with (first | (go_at_call 85; refine c1.mono ?_; rintro e w' ⟨rfl, rfl⟩) | (go_at_call 83; refine (cN _).mono ?_; rintro e w' ⟨rfl, rfl⟩))
    exact ⟨rfl, row_none HE.out rfl ((Below.refl _ w).alloc (Nat.le_refl _) _)⟩
end Go.Proofs.YtgnfknjopafngaaGreatDoor
namespace Go.Proofs.YtgnfknjopafngaaGreatDoor
open Go.RowKit
def flV (f : M.Fl) : Value := .agg #[.string ⟨f.path.toArray⟩, .string ⟨f.content.toArray⟩]
theorem set2 (X : World) (b : Nat) (a0 a1 u0 u1 : Value) (h0 : X.cell? ⟨b, 0, none⟩ = some u0) (h1 : X.cell? ⟨b, 1, none⟩ = some u1) :
    ((X.setCell ⟨b, 0, none⟩ a0).setCell ⟨b, 1, none⟩ a1).cell? ⟨b, 0, none⟩ = some a0 ∧ ((X.setCell ⟨b, 0, none⟩ a0).setCell ⟨b, 1, none⟩ a1).cell? ⟨b, 1, none⟩ = some a1 := by
  refine ⟨?_, ?_⟩
  · rw [setC_off _ _ _ _ _ (by decide), World.cell?_setCell_same _ _ _ h0]
  · rw [World.cell?_setCell_same _ _ _ (by rw [setC_off _ _ _ _ _ (by decide)]; exact h1)]
set_option maxRecDepth 100000 in
set_option maxHeartbeats 2000000 in
theorem readFile_walk (s A B : ByteArray) (ok : Bool) (L : Option (List (List UInt8))) (O : Option M.Fl) (w : World) (hw : Hid (MaxIs w)) (hB : B.size ≤ 1000000) (HO : Hid (O = if ok = true ∧ B.size ≤ 24 ∧ L.isSome = true then some (⟨A.data.toList, B.data.toList⟩ : M.Fl) else none))
    (c1 : ∀ wx, MaxIs wx → Calls Tryz.prog 169 #[.string s, .string ⟨#[61]⟩] wx fun e w' => e = .returned (.tuple #[.string A, .string B, .bool ok]) ∧ ∃ n, w' = wx.drewN n)
    (c2 : ∀ wx, MaxIs wx → Calls Tryz.prog 176 #[.string A, .string ⟨#[47]⟩, .int .i64 3, .func (.func 177) #[] #[]] wx (RowPost L 9 1 (List.map strV) wx)) :
    Calls Tryz.prog 138 #[.string s] w fun e w' => GivesO O flV e ∧ Below w.heap.size w w' := by
  have hwA : ∀ o, MaxIs (w.alloc o) := fun o => hw.out.below ((Below.refl _ w).alloc (Nat.le_refl _) _)
  have cY := must_ok
  have cN := must_no
  go_enter Tryz.func138, Tryz.ntmps138
  go_wp2_with fail
  refine (c1 _ (hwA _)).mono ?_
  rintro e w' ⟨rfl, n, rfl⟩
  obtain ⟨hB1, hz, hcl, hfz⟩ := newB w [.string ⟨#[]⟩, .string ⟨#[]⟩] 159 n
  generalize hW : (w.alloc (.cells [Value.string ⟨#[]⟩, .string ⟨#[]⟩].toArray 159)).drewN n = W1 at hB1 hz hcl hfz
  have q0 := hcl 0 _ rfl
  have q1 := hcl 1 _ rfl
  have HB1 : Hid (Below w.heap.size w W1) := hB1
  have hm1 : Hid (MaxIs W1) := hw.out.below hB1
  change _ = _ at hW
  simp only [List.toArray] at hW
  cases ok
  · clear c2 cY
    go_wp2_with ((go_at_call 83; refine (cN _).mono ?_; rintro e w' ⟨rfl, rfl⟩))
    exact ⟨rfl, givesO_f (HO.out.trans (if_neg (by simp))) rfl, HB1.out⟩
  by_cases h24 : B.size ≤ 24
  · have h24' : (B.size : Int) ≤ 24 := by omega
    clear cN
    have c3 := c2 _ hm1.out
    clear c2
    cases L with
    | none =>
      replace c3 : Calls Tryz.prog 176 #[.string A, .string ⟨#[47]⟩, .int .i64 3, .func (.func 177) #[] #[]] W1 fun e w' => Thrown e ∧ Below W1.heap.size W1 w' := c3.mono fun e w' h => ⟨h.2, h.1⟩
      go_wp2_with (first | (go_at_call 83; refine (cY _).mono ?_; rintro e w' ⟨rfl, rfl⟩) | (go_at_call 176; refine c3.mono ?_; rintro e w5 ⟨rfl, hB5⟩))
      exact ⟨rfl, givesO_f (HO.out.trans (if_neg (by simp))) rfl, bt HB1.out hB5⟩
    | some l =>
      replace c3 : Calls Tryz.prog 176 #[.string A, .string ⟨#[47]⟩, .int .i64 3, .func (.func 177) #[] #[]] W1 fun e w' => (∃ v, e = .returned v) ∧ Below W1.heap.size W1 w' := c3.mono fun e w' h => by
        obtain ⟨h1, v, h2, _⟩ := h
        exact ⟨⟨v, h2⟩, h1⟩
      go_wp2_with (first | (go_at_call 83; refine (cY _).mono ?_; rintro e w' ⟨rfl, rfl⟩) | fail)
      refine c3.mono ?_
      rintro e w5 ⟨⟨v, rfl⟩, hB5⟩
      have p0 := (hB5.cell (p := ⟨w.heap.size, 0, none⟩) (by show w.heap.size < _; omega)).trans q0
      have p1 := (hB5.cell (p := ⟨w.heap.size, 1, none⟩) (by show w.heap.size < _; omega)).trans q1
      have pf : ∀ o, w5.frozen? ⟨w.heap.size, o, none⟩ = false := fun o => (hB5.frozen (p := ⟨w.heap.size, o, none⟩) (by show w.heap.size < _; omega)).trans (hfz o)
      have HB5 : Hid (Below w.heap.size w w5) := bt HB1.out hB5
      go_wp2
      obtain ⟨k0, k1⟩ := set2 w5 w.heap.size (.string A) (.string B) _ _ p0 p1
      refine bodyPost_ret (v := .agg #[.string A, .string B]) (by simp [results, Tryz.results138, go_sem, k0, k1]) rfl ⟨givesO_t _ (HO.out.trans (if_pos (by simpa using h24))) rfl, ?_⟩
      exact (HB5.out.setCell (Nat.le_refl _) _).setCell (Nat.le_refl _) _
  · have h24' : ¬ (B.size : Int) ≤ 24 := by omega
    have hd : decide ((B.size : Int) ≤ 24) = false := by simp; omega
    clear c2 cY
    go_wp2_with ((go_at_call 83; refine (cN _).mono ?_; rintro e w' ⟨rfl, rfl⟩))
    exact ⟨rfl, givesO_f (HO.out.trans (if_neg (fun h => h24 h.2.1))) rfl, HB1.out⟩
theorem readFile_any (s : ByteArray) (w : World) (hw : MaxIs w) (hs : s.size ≤ 100000) :
    Calls Tryz.prog 138 #[.string s] w fun e w' => GivesO (fileC s.data.toList) flV e ∧ Below w.heap.size w w' := by
  obtain ⟨A, hA⟩ := bytes_ex (Lib.cut s.data.toList [61]).1
  obtain ⟨B, hB⟩ := bytes_ex (Lib.cut s.data.toList [61]).2.1
  have h := len_data s
  have sA : A.size ≤ s.size := by have := (cut_len s.data.toList 61).1; rw [size_of hA]; omega
  have sB : B.size ≤ s.size := by have := (cut_len s.data.toList 61).2; rw [size_of hB]; omega
  refine readFile_walk s A B (Lib.cut s.data.toList [61]).2.2 (listC partC 3 A.data.toList [47]) (fileC s.data.toList) w hw (by omega) ?_
    (fun wx hx => cut_lib s A B 61 _ wx hx (by omega) (by rw [hA, hB])) (fun wx hx => listPart_any A ⟨#[47]⟩ 3 wx hx (by omega) (by decide))
  show _ = _
  unfold fileC
  rw [← hA, ← hB, len_data]
  have e : (listC partC 3 A.data.toList [47]).isSome = decide ((M.cutS A.data.toList [47]).length ≤ 3 ∧ (M.cutS A.data.toList [47]).all isPartS = true) := by
    unfold listC
    rw [parts_all]
    by_cases h1 : (M.cutS A.data.toList [47]).length ≤ 3 <;> by_cases h2 : (M.cutS A.data.toList [47]).all isPartS = true <;> simp [h1, h2]
  simp only [e, decide_eq_true_eq]
end Go.Proofs.YtgnfknjopafngaaGreatDoor
namespace Go.Proofs.YtgnfknjopafngaaGreatDoor
open Go.RowKit
def foldU (b : List UInt8) (k : Nat) : List (List UInt8) := (List.range k).flatMap fun i => if Lib.hasPrefix (b.drop i) [47] = true then [b.take i] else []
theorem foldU_all (b : List UInt8) : foldersS b = foldU b b.length := rfl
theorem foldU_yes {b : List UInt8} {k : Nat} (h : Lib.hasPrefix (b.drop k) [47] = true) : foldU b (k + 1) = foldU b k ++ [b.take k] := by
  unfold foldU; rw [List.range_succ, List.flatMap_append]; simp [h]
theorem foldU_no {b : List UInt8} {k : Nat} (h : Lib.hasPrefix (b.drop k) [47] = false) : foldU b (k + 1) = foldU b k := by
  unfold foldU; rw [List.range_succ, List.flatMap_append]; simp [h]
theorem foldU_len (b : List UInt8) : ∀ k, (foldU b k).length ≤ k
  | 0 => by simp [foldU]
  | k + 1 => by
    have := foldU_len b k
    cases h : Lib.hasPrefix (b.drop k) [47] with
    | true => rw [foldU_yes h]; simp; omega
    | false => rw [foldU_no h]; omega
set_option maxRecDepth 100000 in
set_option maxHeartbeats 2000000 in
theorem folders_any (s : ByteArray) (w : World) (hs : s.size ≤ 100000) :
    Calls Tryz.prog 219 #[.string s] w fun e w' => ∃ v, e = .returned v ∧ w'.ownsRow w.heap.size 9 1 v (foldersS s.data.toList).length ((foldersS s.data.toList).map strV) ∧ Below w.heap.size w w' := by
  obtain ⟨i0, hi0, hz0, hz1, hz2⟩ := info_parts infoStr
  go_enter Tryz.func219, Tryz.ntmps219
  go_wp2
  go_loopw [3, 4, 7] (fun v _ j wr => ∃ (l : List (List UInt8)) (k : Nat), j = .int .i64 k ∧ k ≤ s.size ∧ l.length ≤ k ∧ wr.ownsRow w.heap.size 9 1 v l.length (l.map strV) ∧ Below w.heap.size w wr ∧ Hid (l = foldU s.data.toList k)) (fun _ _ j _ => s.size - (intOf j).toNat)
  case atStart => exact ⟨[], 0, rfl, Nat.zero_le _, Nat.le_refl _, World.ownsRow_nil _ _ _ _, Below.refl _ _, rfl⟩
  case round =>
    obtain ⟨l, k, rfl, hk, hlk, hown, hBr, HR⟩ := hrel
    have hsr := hBr.size
    by_cases hlt : k < s.size
    · have cH := Tryz.strings_HasPrefix (s.extract k s.size) ⟨#[47]⟩ wr
      have e1 : (s.extract k s.size).data.toList = s.data.toList.drop k := ext_from s k
      have e2 : (s.extract 0 k).data.toList = s.data.toList.take k := ext_upto s k
      rw [e1] at cH
      cases hp : Lib.hasPrefix (s.data.toList.drop k) [47] with
      | false =>
        have cH2 : Calls Tryz.prog 255 #[.string (s.extract k s.size), .string ⟨#[47]⟩] wr fun e w' => e = .returned (.bool false) ∧ w' = wr := by rw [← hp]; exact cH
        have HN : Hid (l = foldU s.data.toList (k + 1)) := by show _ = _; rw [foldU_no hp]; exact HR.out
        clear cH hp e1 e2 HR
        go_wp2_with (go_at_call 255; refine cH2.mono ?_; rintro e w' ⟨rfl, rfl⟩)
        go_roundw
        case rel => exact ⟨l, k + 1, by go_num, by omega, by omega, hown, hBr, HN⟩
        case measure => simp [intOf]; omega
      | true =>
        have cH2 : Calls Tryz.prog 255 #[.string (s.extract k s.size), .string ⟨#[47]⟩] wr fun e w' => e = .returned (.bool true) ∧ wr = w' := by rw [← hp]; exact cH.mono fun e w' h => ⟨h.1, h.2.symm⟩
        have HN : Hid (l ++ [(s.extract 0 k).data.toList] = foldU s.data.toList (k + 1)) := by show _ = _; rw [foldU_yes hp, e2, HR.out]
        clear cH hp e1 e2 HR
        go_wp2_with (first | (go_at_call 255; refine cH2.mono ?_; rintro e w' ⟨rfl, rfl⟩) | (at_builtin; refine wpList_append_own _ rfl _ _ 43 rfl w.heap.size 9 i0 (.string ⟨#[]⟩) 1 16 Tryz.underlying43 hi0 hz0 hz1 hz2 rfl (by decide) _ _ _ rfl (hown.alloc _) ⟨wr.heap.size, 0, none⟩ 1 1 [.string (s.extract 0 k)] rfl rfl ?c1 ?c2 ?c3 ?c4 ?c5 ?_))
        case c1 => exact one_new _ _ _
        case c2 => intro u hu; simp at hu; subst hu; rfl
        case c3 => unfold maxLen; omega
        case c4 => omega
        case c5 => simp; omega
        intro v' w3 hown' hgrow _
        have R1 : w3.ownsRow w.heap.size 9 1 v' (l ++ [(s.extract 0 k).data.toList]).length ((l ++ [(s.extract 0 k).data.toList]).map strV) := by
          rw [List.map_append, List.length_append]; exact hown'
        have R2 : Below w.heap.size w w3 :=
          (hBr.alloc (by omega) _).grown hgrow (by simp; omega) (fun j hj => (hown.lt j hj).1)
        clear hown' hgrow hown
        go_wp2
        go_roundw
        case rel => exact ⟨_, k + 1, by go_num, by omega, by simp; omega, R1, R2, HN⟩
        case measure => simp [intOf]; omega
    · have hkk : k = s.size := by omega
      have HE : Hid (l = foldersS s.data.toList) := by show _ = _; rw [foldU_all, len_data, ← hkk]; exact HR.out
      obtain ⟨av, cv, hv⟩ := own_form hown
      subst hv
      clear hkk
      go_wp2
      go_ret
      exact ⟨_, rfl, by rw [← HE.out]; exact hown, hBr⟩
end Go.Proofs.YtgnfknjopafngaaGreatDoor
namespace Go.Proofs.YtgnfknjopafngaaGreatDoor
open Go.RowKit
theorem contains_lib (l : List (List UInt8)) (x : ByteArray) (v : Value) (B : Nat) (w : World) (h : w.ownsRow B 9 1 v l.length (l.map strV)) (hl : l.length ≤ 1000000) :
    Calls Tryz.prog 218 #[v, .string x] w fun e w' => e = .returned (.bool (l.contains x.data.toList)) ∧ w' = w := by
  rcases RowIn.own h with ⟨rfl, h0, _⟩ | ⟨g, cap, rfl, h1, h2, h3, h4⟩
  · obtain rfl := List.length_eq_zero_iff.mp h0
    exact Tryz.slices_Contains_string_empty _ _ x w
  · have hc := Tryz.slices_Contains_string g 0 l.length cap (l.map fun q => ⟨q.toArray⟩) x w (by simp) (by omega) (fun j hj => by
      rw [List.length_map] at hj
      rw [Nat.zero_add]
      have := h4 j (strV l[j]) (by simp [hj])
      rw [this]
      simp [strV, hj])
    refine hc.mono fun e w' h => ⟨?_, h.2⟩
    rw [h.1]
    congr 2
    rw [Bool.eq_iff_iff, Lib.containsS_iff, List.contains_iff_mem, List.take_of_length_le (by simp)]
    constructor
    · intro hm
      obtain ⟨q, hq, e⟩ := List.mem_map.1 hm
      subst e
      exact hq
    · intro hm
      exact List.mem_map.2 ⟨_, hm, mk_data x⟩
def clashB (a b : ByteArray) : Bool := clashS a.data.toList b.data.toList
set_option maxRecDepth 100000 in
set_option maxHeartbeats 2000000 in
theorem clash_any (a b : ByteArray) (w : World) (ha : a.size ≤ 100000) (hb : b.size ≤ 100000) :
    Calls Tryz.prog 175 #[.string a, .string b] w fun e w' => e = .returned (.bool (clashB a b)) ∧ Below w.heap.size w w' := by
  have HC : Hid (clashB a b = (a.toList == b.toList || (foldersS b.data.toList).contains a.data.toList || (foldersS a.data.toList).contains b.data.toList)) := by
    show _ = _
    unfold clashB clashS
    rw [Lib.toList_data, Lib.toList_data]
  have lB : (foldersS b.data.toList).length ≤ 1000000 := by have := foldU_len b.data.toList b.data.toList.length; have := len_data b; rw [foldU_all]; omega
  have lA : (foldersS a.data.toList).length ≤ 1000000 := by have := foldU_len a.data.toList a.data.toList.length; have := len_data a; rw [foldU_all]; omega
  have cB := folders_any b w hb
  by_cases h0 : (a.toList == b.toList) = true
  · have HE : Hid (clashB a b = true) := by show _ = _; rw [HC.out, h0]; rfl
    clear cB
    go_enter Tryz.func175, Tryz.ntmps175
    go_wp2
    go_ret
    exact ⟨ret_bool HE.out.symm, Below.refl _ _⟩
  replace h0 : (a.toList == b.toList) = false := by simpa using h0
  cases h1 : (foldersS b.data.toList).contains a.data.toList with
  | true =>
    have HE : Hid (clashB a b = true) := by show _ = _; rw [HC.out, h0, h1]; rfl
    go_enter Tryz.func175, Tryz.ntmps175
    go_wp2_with fail
    refine cB.mono ?_
    rintro e w1 ⟨v, rfl, hv, hB1⟩
    have cC := contains_lib _ a v _ w1 hv lB
    rw [h1] at cC
    go_wp2_with (go_at_call 218; refine cC.mono ?_; rintro e w' ⟨rfl, rfl⟩)
    go_ret
    exact ⟨ret_bool HE.out.symm, hB1⟩
  | false =>
    have HE : Hid (clashB a b = (foldersS a.data.toList).contains b.data.toList) := by show _ = _; rw [HC.out, h0, h1]; rfl
    go_enter Tryz.func175, Tryz.ntmps175
    go_wp2_with fail
    refine cB.mono ?_
    rintro e w1 ⟨v, rfl, hv, hB1⟩
    have cC := contains_lib _ a v _ w1 hv lB
    rw [h1] at cC
    replace cC : Calls Tryz.prog 218 #[v, .string a] w1 fun e w' => e = .returned (.bool false) ∧ w1 = w' := cC.mono fun e w' h => ⟨h.1, h.2.symm⟩
    have cA := folders_any a w1 ha
    go_wp2_with (go_at_call 218; refine cC.mono ?_; rintro e w' ⟨rfl, rfl⟩)
    refine cA.mono ?_
    rintro e w2 ⟨v2, rfl, hv2, hB2⟩
    have cD := contains_lib _ b v2 _ w2 hv2 lA
    generalize (foldersS a.data.toList).contains b.data.toList = r at HE cD
    go_wp2_with (go_at_call 218; refine cD.mono ?_; rintro e w' ⟨rfl, rfl⟩)
    go_ret
    exact ⟨ret_bool HE.out.symm, bt hB1 hB2⟩
abbrev SFl : Type := { f : M.Fl // f.path.length ≤ 100000 }
def sflCells (x : SFl) : List Value := [strV x.1.path, strV x.1.content]
set_option maxRecDepth 100000 in
set_option maxHeartbeats 2000000 in
theorem addClosure_any (X : ByteArray) (fb : Nat) (g : SFl) (W : World) (hX : X.size ≤ 100000) (hf : W.cell? ⟨fb, 0, none⟩ = some (.string X)) :
    Calls Tryz.prog 174 #[.agg #[strV g.1.path, strV g.1.content], .pointer (some ⟨fb, 0, none⟩)] W fun e w' => e = .returned (.bool (clashS X.data.toList g.1.path)) ∧ Below W.heap.size W w' := by
  obtain ⟨⟨P, C⟩, hg⟩ := g
  have cC := fun wx => clash_any X ⟨P.toArray⟩ wx hX (by have := len_data ⟨P.toArray⟩; simp at this hg ⊢; omega)
  have e0 : clashB X ⟨P.toArray⟩ = clashS X.data.toList P := rfl
  rw [e0] at cC
  unfold strV
  generalize clashS X.data.toList P = r at cC ⊢
  have hlt : fb < W.heap.size := by
    rcases Nat.lt_or_ge fb W.heap.size with h | h
    · exact h
    · simp [World.cell?, Array.getElem?_eq_none h] at hf
  have hf2 : ∀ o, (W.alloc o).cell? ⟨fb, 0, none⟩ = some (.string X) := fun o => (World.cell?_alloc_past _ _ _ hlt).trans hf
  go_enter Tryz.func174, Tryz.ntmps174
  go_wp2_with fail
  refine (cC _).mono ?_
  rintro e w' ⟨rfl, hB⟩
  go_wp2
  go_ret
  exact ⟨rfl, bt ((Below.refl _ W).alloc (Nat.le_refl _) _) hB⟩
end Go.Proofs.YtgnfknjopafngaaGreatDoor
