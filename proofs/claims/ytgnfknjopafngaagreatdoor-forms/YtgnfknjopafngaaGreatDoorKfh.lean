import Derived.Test.YtgnfknjopafngaaGreatDoorKff
import Derived.Deep.RegionLaw
import Derived.Test.YtgnfknjopafngaaGreatDoorKfg
namespace Go.Proofs.YtgnfknjopafngaaGreatDoor
open Go.RowKit
theorem size_set (w : World) (a : Addr) (v : Value) : (w.setCell a v).heap.size = w.heap.size := by simp [World.setCell]
theorem cell_set_block (w : World) (b o : Nat) (v : Value) (g o' : Nat) (h : g ≠ b) : (w.setCell ⟨b, o, none⟩ v).cell? ⟨g, o', none⟩ = w.cell? ⟨g, o', none⟩ :=
  World.cell?_setCell_other _ _ _ _ (by intro e; cases e; exact h rfl)
theorem cell_set_off (w : World) (b o : Nat) (v : Value) (o' : Nat) (h : o' ≠ o) : (w.setCell ⟨b, o, none⟩ v).cell? ⟨b, o', none⟩ = w.cell? ⟨b, o', none⟩ :=
  World.cell?_setCell_other _ _ _ _ (by intro e; cases e; exact h rfl)
theorem PAt.title {w : World} {pb B : Nat} {p : M.Pk} {nv bv fv : Value} (h : PAt w pb B p nv bv fv) (X Y : ByteArray) :
    PAt ((w.setCell ⟨pb, 0, none⟩ (.string X)).setCell ⟨pb, 1, none⟩ (.string Y)) pb B { p with name := X.data.toList, ver := Y.data.toList } nv bv fv := by
  have kk : ∀ g o, pb + 1 ≤ g → g < B → CellS w ((w.setCell ⟨pb, 0, none⟩ (.string X)).setCell ⟨pb, 1, none⟩ (.string Y)) g o := fun g o hg _ => by
    exact ((setS (by omega)).trans (setS (by omega)))
  have k1 : (w.setCell ⟨pb, 0, none⟩ (.string X)).cell? ⟨pb, 1, none⟩ = some (.string ⟨p.ver.toArray⟩) := (cell_set_off _ _ _ _ _ (by decide)).trans h.c1
  refine ⟨?_, ?_, ?_, ?_, ?_, fun o => ?_, h.lt, ?_, h.needs.keep kk, h.bars.keep kk, ?_, h.nnil, h.fnil⟩
  · rw [cell_set_off _ _ _ _ _ (by decide), World.cell?_setCell_same _ _ _ h.c0]
  · rw [World.cell?_setCell_same _ _ _ k1]
  · rw [cell_set_off _ _ _ _ _ (by decide), cell_set_off _ _ _ _ _ (by decide)]; exact h.c2
  · rw [cell_set_off _ _ _ _ _ (by decide), cell_set_off _ _ _ _ _ (by decide)]; exact h.c3
  · rw [cell_set_off _ _ _ _ _ (by decide), cell_set_off _ _ _ _ _ (by decide)]; exact h.c4
  · rw [World.frozen?_setCell, World.frozen?_setCell]; exact h.fz o
  · rw [size_set, size_set]; exact h.le
  · exact ownsRow_setCell_below (ownsRow_setCell_below h.files h.lt _) h.lt _
def titleB (s : ByteArray) : Option (List UInt8 × List UInt8) := M.titleS s.data.toList
theorem title_3 (s P0 P1 P2 : ByteArray) (h : cutB s ⟨#[32]⟩ = [P0.data.toList, P1.data.toList, P2.data.toList]) :
    titleB s = if (P0.toList == [112, 97, 99, 107, 97, 103, 101]) = true ∧ isNameB P1 = true ∧ isVerB P2 = true then some (P1.data.toList, P2.data.toList) else none := by
  unfold titleB M.titleS
  rw [show M.cutS s.data.toList [32] = cutB s ⟨#[32]⟩ from rfl, h, Lib.toList_data]
  rfl
theorem title_no (s : ByteArray) (h3 : (cutB s ⟨#[32]⟩).length ≠ 3) : titleB s = none := by
  unfold titleB M.titleS
  rw [show M.cutS s.data.toList [32] = cutB s ⟨#[32]⟩ from rfl]
  split
  · rename_i e; rw [e] at h3; simp at h3
  · rfl
def TitlePost (s : ByteArray) (pb B : Nat) (p : M.Pk) (nv bv fv : Value) (w : World) (e : Ending) (w' : World) : Prop :=
  e = .returned (.bool (titleB s).isSome) ∧ (∀ a b, titleB s = some (a, b) → PAt w' pb B { p with name := a, ver := b } nv bv fv) ∧ Below pb w w'
set_option maxRecDepth 100000 in
set_option maxHeartbeats 2000000 in
theorem line0_three (s P0 P1 P2 : ByteArray) (w : World) (pb B : Nat) (p : M.Pk) (nv bv fv : Value) (hP : PAt w pb B p nv bv fv) (hl : s.size ≤ 100000) (h : cutB s ⟨#[32]⟩ = [P0.data.toList, P1.data.toList, P2.data.toList]) :
    Calls Tryz.prog 37 #[.pointer (some ⟨pb, 0, none⟩), .int .i64 0, .string s] w (TitlePost s pb B p nv bv fv w) := by
  have hP1 : P1.size ≤ s.size := piece_size (ps := [P0, P1, P2]) h P1 (by simp)
  have hP2 : P2.size ≤ s.size := piece_size (ps := [P0, P1, P2]) h P2 (by simp)
  have cC := fun wx => cut_c s ⟨#[32]⟩ wx (by decide) (by omega) (by decide) [P0, P1, P2] h
  have HT := title_3 s P0 P1 P2 h
  replace HT : Hid _ := HT
  clear h
  have hpw : pb < w.heap.size := Nat.lt_of_lt_of_le hP.lt hP.le
  by_cases h0 : (P0.toList == [112, 97, 99, 107, 97, 103, 101]) = true
  · have hr : ∃ r : Bool, Hid ((titleB s).isSome = r) ∧ (isNameB P1 = true ∧ isVerB P2 = r ∨ isNameB P1 = false ∧ r = false) := by
      cases hn : isNameB P1 with
      | false => exact ⟨false, by show _ = _; rw [HT.out]; simp [hn], .inr ⟨rfl, rfl⟩⟩
      | true =>
        cases hv : isVerB P2 with
        | false => exact ⟨false, by show _ = _; rw [HT.out]; simp [hv], .inl ⟨rfl, rfl⟩⟩
        | true => exact ⟨true, by show _ = _; rw [HT.out]; simp [h0, hn, hv], .inl ⟨rfl, rfl⟩⟩
    obtain ⟨r, HR, hr⟩ := hr
    rcases hr with ⟨hn, hv⟩ | ⟨hn, rfl⟩
    all_goals
      go_enter Tryz.func37, Tryz.ntmps37
      go_wp2_with fail
      refine (cC _).mono ?_
      rintro e w1 ⟨g, cap, rfl, hg1, hg2, hcap, hc, hB⟩
      have c0 : w1.cell? ⟨g, 0, none⟩ = some (.string P0) := hc 0 (by simp)
      have c1 : w1.cell? ⟨g, 1, none⟩ = some (.string P1) := hc 1 (by simp)
      have c2 : w1.cell? ⟨g, 2, none⟩ = some (.string P2) := hc 2 (by simp)
      clear hc cC
      have hQ := hP.below hB
      have HQ : Hid (PAt w1 pb B p nv bv fv) := hQ
      have hgp : g ≠ pb := by omega
      have q0 := hQ.c0
      have q1 := hQ.c1
      have qf := hQ.fz
      clear hQ
      simp only [List.length_cons, List.length_nil, Nat.zero_add] at hcap ⊢
      go_wp2_with (first | (go_at_call 59; refine (isName_any _ _ (by omega)).mono ?_; rintro e w' ⟨rfl, rfl⟩) | (go_at_call 60; refine (isVersion_any _ _ (by omega)).mono ?_; rintro e w' ⟨rfl, rfl⟩))
      go_ret
      refine ⟨ret_bool HR.out.symm, ?_, ?_⟩
      · intro a b hab
        rw [HT.out] at hab
        split at hab
        · cases hab; exact HQ.out.title P1 P2
        · cases hab
      · exact ((hB.mono (show pb ≤ w.heap.size by omega)).setCell (Nat.le_refl _) _).setCell (Nat.le_refl _) _
  · have h0' : (P0.toList == [112, 97, 99, 107, 97, 103, 101]) = false := by simpa using h0
    have HE : Hid (titleB s = none) := by show _ = _; rw [HT.out, if_neg (fun h => h0 h.1)]
    clear h0 HT
    go_enter Tryz.func37, Tryz.ntmps37
    go_wp2_with fail
    refine (cC _).mono ?_
    rintro e w1 ⟨g, cap, rfl, hg1, hg2, hcap, hc, hB⟩
    have c0 : w1.cell? ⟨g, 0, none⟩ = some (.string P0) := hc 0 (by simp)
    clear hc cC
    simp only [List.length_cons, List.length_nil, Nat.zero_add] at hcap ⊢
    go_wp2
    go_ret
    exact ⟨ret_bool (by rw [HE.out]; rfl), (fun a b h => by rw [HE.out] at h; cases h), hB.mono (by have := hP.lt; have := hP.le; omega)⟩
set_option maxRecDepth 100000 in
set_option maxHeartbeats 1000000 in
theorem line0_many (s : ByteArray) (ps : List ByteArray) (w : World) (pb B : Nat) (p : M.Pk) (nv bv fv : Value) (hP : PAt w pb B p nv bv fv) (hl : s.size ≤ 100000) (h : cutB s ⟨#[32]⟩ = ps.map (fun p => p.data.toList)) (h3 : ps.length ≠ 3) :
    Calls Tryz.prog 37 #[.pointer (some ⟨pb, 0, none⟩), .int .i64 0, .string s] w (TitlePost s pb B p nv bv fv w) := by
  have cC := fun wx => cut_c s ⟨#[32]⟩ wx (by decide) (by omega) (by decide) ps h
  have HE : Hid (titleB s = none) := title_no s (by rw [h]; simpa using h3)
  have hn : ps.length ≤ 100001 := by
    have e : (cutB s ⟨#[32]⟩).length = ps.length := by rw [h]; simp
    have : (cutB s ⟨#[32]⟩).length ≤ s.data.toList.length + 1 := (M.cutS_len s.data.toList [32]).2
    simp only [Array.length_toList, ByteArray.size_data] at this
    omega
  have t3 : ((ps.length : Int) != 3) = true := by rw [bne_iff_ne]; omega
  clear h
  go_enter Tryz.func37, Tryz.ntmps37
  go_wp2_with fail
  refine (cC _).mono ?_
  rintro e w1 ⟨g, cap, rfl, hg1, hg2, hcap, hc, hB⟩
  clear hc cC
  go_wp2
  go_ret
  exact ⟨ret_bool (by rw [HE.out]; rfl), (fun a b h => by rw [HE.out] at h; cases h), hB.mono (by have := hP.lt; have := hP.le; omega)⟩
theorem line0_any (s : ByteArray) (w : World) (pb B : Nat) (p : M.Pk) (nv bv fv : Value) (hP : PAt w pb B p nv bv fv) (hl : s.size ≤ 100000) :
    Calls Tryz.prog 37 #[.pointer (some ⟨pb, 0, none⟩), .int .i64 0, .string s] w (TitlePost s pb B p nv bv fv w) := by
  obtain ⟨ps, hps⟩ := bytes_list (cutB s ⟨#[32]⟩)
  by_cases h3 : ps.length = 3
  · match ps, h3, hps with
    | [P0, P1, P2], _, hps => exact line0_three s P0 P1 P2 w pb B p nv bv fv hP hl hps
  · exact line0_many s ps w pb B p nv bv fv hP hl hps h3
end Go.Proofs.YtgnfknjopafngaaGreatDoor
namespace Go.Proofs.YtgnfknjopafngaaGreatDoor
open Go.RowKit
def needsT : ByteArray := ⟨#[110, 101, 101, 100, 115, 32]⟩
def barsT : ByteArray := ⟨#[98, 97, 114, 115, 32]⟩
def fileT : ByteArray := ⟨#[102, 105, 108, 101, 32]⟩
theorem begins_head {s : List UInt8} {a b : UInt8} {t r : List UInt8} (h : M.begins s (a :: t) = true) (k : M.begins s (b :: r) = true) : a = b := by
  unfold M.begins at h k
  cases s with
  | nil => simp at h
  | cons c s => simp at h k; rw [← h.2.1, ← k.2.1]
theorem excl {s : List UInt8} {a b : UInt8} {t r : List UInt8} (h : M.begins s (a :: t) = true) (hab : a ≠ b) : M.begins s (b :: r) = false := by
  cases k : M.begins s (b :: r) with
  | false => rfl
  | true => exact absurd (begins_head h k) hab
def LinePost (s : ByteArray) (k pb : Nat) (p : M.Pk) (w : World) (e : Ending) (w' : World) : Prop :=
  e = .returned (.bool (M.lineS p k s.data.toList).isSome) ∧ (∀ p', M.lineS p k s.data.toList = some p' → PkAt w' pb p') ∧ Below pb w w'
set_option maxRecDepth 100000 in
set_option maxHeartbeats 2000000 in
theorem line_none (s : ByteArray) (k : Nat) (w : World) (pb B : Nat) (p : M.Pk) (nv bv fv : Value) (hP : PAt w pb B p nv bv fv) (hk : 0 < k) (hk2 : k ≤ 1000000)
    (hn : p.needs.length ≤ 1000000) (hb : p.bars.length ≤ 1000000) (hf : p.files.length ≤ 1000000)
    (h1 : ¬ (M.begins s.data.toList M.needsW = true ∧ p.needs.length + p.bars.length + p.files.length = 0))
    (h2 : ¬ (M.begins s.data.toList M.barsW = true ∧ p.bars.length + p.files.length = 0))
    (h3 : ¬ (M.begins s.data.toList M.fileW = true ∧ p.files.length < 4)) :
    Calls Tryz.prog 37 #[.pointer (some ⟨pb, 0, none⟩), .int .i64 k, .string s] w (LinePost s k pb p w) := by
  have HE : Hid (M.lineS p k s.data.toList = none) := by
    show _ = _
    unfold M.lineS
    rw [if_neg (by omega), if_neg h1, if_neg h2, if_neg h3]
  have hc : (beginsB s needsT = true ∧ beginsB s barsT = false ∧ beginsB s fileT = false ∧ ((p.needs.length : Int) + p.bars.length + p.files.length == 0) = false) ∨
      (beginsB s needsT = false ∧ beginsB s barsT = true ∧ beginsB s fileT = false ∧ ((p.bars.length : Int) + p.files.length == 0) = false) ∨
      (beginsB s needsT = false ∧ beginsB s barsT = false ∧ beginsB s fileT = true ∧ decide ((p.files.length : Int) < 4) = false) ∨
      (beginsB s needsT = false ∧ beginsB s barsT = false ∧ beginsB s fileT = false) := by
    cases e1 : M.begins s.data.toList M.needsW with
    | true =>
      refine .inl ⟨e1, excl e1 (by decide), excl e1 (by decide), ?_⟩
      rw [beq_eq_false_iff_ne]; intro e; exact h1 ⟨e1, by omega⟩
    | false =>
      cases e2 : M.begins s.data.toList M.barsW with
      | true =>
        refine .inr (.inl ⟨e1, e2, excl e2 (by decide), ?_⟩)
        rw [beq_eq_false_iff_ne]; intro e; exact h2 ⟨e2, by omega⟩
      | false =>
        cases e3 : M.begins s.data.toList M.fileW with
        | true =>
          refine .inr (.inr (.inl ⟨e1, e2, e3, ?_⟩))
          rw [decide_eq_false_iff_not]; intro e; exact h3 ⟨e3, by omega⟩
        | false => exact .inr (.inr (.inr ⟨e1, e2, e3⟩))
  clear h1 h2 h3
  have hk0 : ((k : Int) == 0) = false := by rw [beq_eq_false_iff_ne]; omega
  obtain ⟨an, cn, en⟩ := hP.needs.form
  obtain ⟨ab, cb, eb⟩ := hP.bars.form
  obtain ⟨af, cf, ef⟩ := own_form hP.files
  subst en eb ef
  have q2 := hP.c2
  have q3 := hP.c3
  have q4 := hP.c4
  have cB := fun wx t => begins_any s t wx
  rcases hc with ⟨b1, b2, b3, hd⟩ | ⟨b1, b2, b3, hd⟩ | ⟨b1, b2, b3, hd⟩ | ⟨b1, b2, b3⟩
  all_goals
    go_enter Tryz.func37, Tryz.ntmps37
    go_wp2_with fail
    refine (cB _ needsT).mono ?_
    rintro e w' ⟨rfl, rfl⟩
    go_wp2_with fail
    refine (cB _ barsT).mono ?_
    rintro e w' ⟨rfl, rfl⟩
    go_wp2_with fail
    refine (cB _ fileT).mono ?_
    rintro e w' ⟨rfl, rfl⟩
    go_wp2
    go_quiet (fail)
    go_wp2
    go_quiet (fail)
    go_wp2
    go_ret
    exact ⟨ret_bool (by rw [HE.out]; rfl), (fun p' h => by rw [HE.out] at h; cases h), below_drewN (Below.refl _ _) _⟩
theorem PAt.bars' {w w1 : World} {pb B : Nat} {p : M.Pk} {nv bv fv v : Value} {l : List M.Ch} (h : PAt w pb B p nv bv fv) (hb : Below w.heap.size w w1) (hf : p.files = [])
    (ho : w1.ownsRow w.heap.size 125 3 v l.length (chsCells l)) : PAt (w1.setCell ⟨pb, 3, none⟩ v) pb w1.heap.size { p with bars := l } nv v fv := by
  have h1 := h.below hb
  have hpb : pb < w.heap.size := Nat.lt_of_lt_of_le h.lt h.le
  have hz := hb.size
  have kk : ∀ g o, pb + 1 ≤ g → g < B → CellS w1 (w1.setCell ⟨pb, 3, none⟩ v) g o := fun g o hg _ => setS (by omega)
  have kk' : ∀ g o, w.heap.size ≤ g → g < w1.heap.size → CellS w1 (w1.setCell ⟨pb, 3, none⟩ v) g o := fun g o hg _ => setS (by omega)
  have e := h.fnil hf
  subst e
  refine ⟨?_, ?_, ?_, ?_, ?_, fun o => ?_, by omega, by rw [size_set]; exact Nat.le_refl _, (h1.needs.keep kk).wide (Nat.le_refl _) h1.le, ((RowIn.own ho).keep kk').wide (by omega) (Nat.le_refl _), ?_, h.nnil, fun _ => rfl⟩
  · rw [cell_set_off _ _ _ _ _ (by decide)]; exact h1.c0
  · rw [cell_set_off _ _ _ _ _ (by decide)]; exact h1.c1
  · rw [cell_set_off _ _ _ _ _ (by decide)]; exact h1.c2
  · rw [World.cell?_setCell_same _ _ _ h1.c3]
  · rw [cell_set_off _ _ _ _ _ (by decide)]; exact h1.c4
  · rw [World.frozen?_setCell]; exact h1.fz o
  · show World.ownsRow _ _ _ _ _ p.files.length (flsCells p.files)
    rw [hf]; exact World.ownsRow_nil _ _ _ _
set_option maxRecDepth 100000 in
set_option maxHeartbeats 2000000 in
theorem line_bars (s : ByteArray) (k : Nat) (w : World) (pb B : Nat) (p : M.Pk) (nv bv fv : Value) (hP : PAt w pb B p nv bv fv) (hk : 0 < k) (hk2 : k ≤ 1000000) (hl : s.size ≤ 100000)
    (h2 : M.begins s.data.toList M.barsW = true) (h2' : p.bars.length + p.files.length = 0) :
    Calls Tryz.prog 37 #[.pointer (some ⟨pb, 0, none⟩), .int .i64 k, .string s] w (LinePost s k pb p w) := by
  have b1 : beginsB s needsT = false := excl h2 (by decide)
  have b2 : beginsB s barsT = true := h2
  have b3 : beginsB s fileT = false := excl h2 (by decide)
  have hb0 : p.bars.length = 0 := by omega
  have hf0 : p.files.length = 0 := by omega
  have hs5 : 5 ≤ s.size := by unfold M.begins at h2; simp [M.barsW] at h2; omega
  have HE : Hid (M.lineS p k s.data.toList = (choicesB (s.extract 5 s.size) ⟨#[44, 32]⟩ 3).map (fun l => { p with bars := l })) := by
    show _ = _
    unfold M.lineS choicesB
    rw [if_neg (by omega), if_neg (fun h => by rw [show M.begins s.data.toList M.needsW = false from b1] at h; exact absurd h.1 (by decide)), if_pos ⟨h2, h2'⟩, ext_from]
    show (match M.choicesS (s.data.toList.drop 5) [44, 32] 3 with | none => none | some l => some { p with bars := l }) = _
    cases M.choicesS (s.data.toList.drop 5) [44, 32] 3 <;> rfl
  have hk0 : ((k : Int) == 0) = false := by rw [beq_eq_false_iff_ne]; omega
  have HF : Hid (p.files = []) := List.length_eq_zero_iff.mp hf0
  obtain ⟨an, cn, en⟩ := hP.needs.form
  obtain ⟨ab, cb, eb⟩ := hP.bars.form
  obtain ⟨af, cf, ef⟩ := own_form hP.files
  rw [hb0] at eb
  rw [hf0] at ef
  subst en eb ef
  clear hb0 hf0 h2 h2'
  have q2 := hP.c2
  have q3 := hP.c3
  have q4 := hP.c4
  have cB := fun wx t => begins_any s t wx
  have cC := fun wx => choices_any (s.extract 5 s.size) ⟨#[44, 32]⟩ 3 wx (by decide) (by have := ext_size s 5 s.size; omega) (by decide) (by decide)
  go_enter Tryz.func37, Tryz.ntmps37
  go_wp2_with fail
  refine (cB _ needsT).mono ?_
  rintro e w' ⟨rfl, rfl⟩
  go_wp2_with fail
  refine (cB _ barsT).mono ?_
  rintro e w' ⟨rfl, rfl⟩
  go_wp2_with fail
  refine (cB _ fileT).mono ?_
  rintro e w' ⟨rfl, rfl⟩
  go_wp2
  go_quiet (fail)
  go_wp2
  go_quiet (fail)
  go_wp2_with fail
  refine (cC _).mono ?_
  rintro e w1 ⟨v, l, rfl, hown, hx, hll, hB1⟩
  have HP1 : Hid (PAt (w1.setCell ⟨pb, 3, none⟩ v) pb w1.heap.size { p with bars := l } _ v _) := PAt.bars' (hP.below (below_same _ _)) hB1 HF.out hown
  have hQ := (hP.below (below_same w' _)).below hB1
  have r3 := hQ.c3
  have rf := hQ.fz
  have hpw : pb < w'.heap.size := Nat.lt_of_lt_of_le hP.lt hP.le
  clear hQ q2 q3 q4
  obtain ⟨av, cv, ev⟩ := own_form hown
  subst ev
  have HX : Hid (∀ x, choicesB (s.extract 5 s.size) ⟨#[44, 32]⟩ 3 = some x → x = l) := hx
  clear hx hown
  go_wp2
  go_ret
  refine ⟨ret_bool ?_, ?_, ?_⟩
  · rw [HE.out, Option.isSome_map]
  · intro p' hp'
    rw [HE.out] at hp'
    cases hc : choicesB (s.extract 5 s.size) ⟨#[44, 32]⟩ 3 with
    | none => rw [hc] at hp'; cases hp'
    | some x =>
      rw [hc] at hp'
      have := HX.out x hc
      subst this
      cases hp'
      exact ⟨_, _, _, _, HP1.out⟩
  · exact (((below_same w' _).mono (Nat.le_of_lt hpw)).trans (hB1.mono (Nat.le_of_lt hpw))).setCell (Nat.le_refl _) _
end Go.Proofs.YtgnfknjopafngaaGreatDoor
namespace Go.Proofs.YtgnfknjopafngaaGreatDoor
open Go.RowKit
theorem infoFl : (Tryz.prog.info? 74).map (fun i => (i.zero, i.size, i.bytes)) = some (some (.agg #[.string ⟨#[]⟩, .string ⟨#[]⟩]), 2, 32) := by kernel_rfl
theorem step_append_own {P : Program} {ops : Array Oper} {o : Oper} {a : Act} {w : World} {K : Act → World → Prop} {Q : Exit → Act → World → Prop} {E : Prop} (hgd : o.guard = none) (s x : Operand) (t : TypeId)
    (ho : o.op = .call { callee := .builtin .append, args := #[s, x], argTypes := #[t, t] })
    (base : Nat) (e : TypeId) (i : TypeInfo) (z : Value) (size bytes : Nat) (ht : P.underlying t = some (.slice e)) (hi : P.info? e = some i) (hz : i.zero = some z)
    (hsize : i.size = size) (hby : i.bytes = bytes) (hzs : z.cells.size = size) (hsz : 0 < size)
    (v : Value) (n : Nat) (xs : List Value) (hs : a.eval s = v) (hown : w.ownsRow base e size v n xs)
    (ad : Addr) (m c : Nat) (news : List Value) (hx : a.eval x = .slice (some ad) m c) (hl : news.length = m * size) (hnews : ∀ j u, news[j]? = some u → w.cell? (ad.add j) = some u) (h1 : ∀ u ∈ news, u.oneCell' = true)
    (h63 : n + m ≤ maxLen) (hbytes : (n + m) * bytes ≤ 140737488355328) (hbase : base ≤ w.heap.size)
    (h : ∀ v' w', w'.ownsRow base e size v' (n + m) (xs ++ news) → w.grownBy w' v.ownBlock → (v' = .slice none 0 0 ↔ v = .slice none 0 0 ∧ m = 0) → K (a.put o.dst v') w') :
    if Region.wanted o (yielded ops a.tmps) = true then Oper.wp P o a w K Q else E := by
  rw [if_pos (by simp [Region.wanted, hgd])]
  exact wp_append_own _ s x t ho base e i z size bytes ht hi hz hsize hby hzs hsz v n xs hs hown ad m c news hx hl hnews h1 h63 hbytes hbase h
theorem all_take {α : Type} (f : α → Bool) (l : List α) (k : Nat) (hk : k < l.length) : (l.take (k + 1)).all f = ((l.take k).all f && f l[k]) := by
  rw [List.take_add_one, List.getElem?_eq_getElem hk, List.all_append]; simp
theorem fl_cell {l : List M.Fl} {k : Nat} (hk : k < l.length) : (flsCells l)[2 * k]? = some (strV l[k].path) := by
  induction l generalizing k with
  | nil => simp at hk
  | cons f l ih =>
    cases k with
    | zero => simp [flsCells, flCells]
    | succ k =>
      have := ih (k := k) (by simpa using hk)
      simp only [flsCells, List.flatMap_cons, flCells] at this ⊢
      rw [show 2 * (k + 1) = 2 * k + 1 + 1 by omega]
      simpa using this
theorem grown_keep {wx w2 : World} {row : Option Nat} (hg : wx.grownBy w2 row) (b : Nat) (hb : b < wx.heap.size) (hne : some b ≠ row) :
    ∀ o, w2.cell? ⟨b, o, none⟩ = wx.cell? ⟨b, o, none⟩ ∧ w2.frozen? ⟨b, o, none⟩ = wx.frozen? ⟨b, o, none⟩ := fun o =>
  ⟨World.cell?_of_block (w := wx) (a := ⟨b, o, none⟩) (hg.block b hb hne), World.frozen?_of_block (w := wx) (a := ⟨b, o, none⟩) (hg.block b hb hne)⟩
theorem PAt.grown {w wx w2 : World} {pb B : Nat} {p : M.Pk} {nv bv fv : Value} (h : PAt w pb B p nv bv fv) (hb : Below w.heap.size w wx) (hg : wx.grownBy w2 fv.ownBlock) :
    (∀ g o, g < B → CellS w w2 g o ∧ w2.frozen? ⟨g, o, none⟩ = w.frozen? ⟨g, o, none⟩) ∧ w.heap.size ≤ w2.heap.size := by
  have hz := hb.size
  have hz2 := hg.size
  refine ⟨fun g o hgB => ?_, by omega⟩
  have hl := h.le
  have k := grown_keep hg g (by omega) (fun e => by have := (h.files.lt g e.symm).1; omega) o
  exact ⟨(blockS (hg.block g (by omega) (fun e => by have := (h.files.lt g e.symm).1; omega))).trans (belowS hb (by show g < _; omega)), k.2.trans (hb.frozen (p := ⟨g, o, none⟩) (by show g < _; omega))⟩
theorem PAt.files' {w wx w2 : World} {pb B : Nat} {p : M.Pk} {nv bv fv v' : Value} {X Y : ByteArray} (h : PAt w pb B p nv bv fv) (hb : Below w.heap.size w wx) (hg : wx.grownBy w2 fv.ownBlock)
    (ho : w2.ownsRow B 74 2 v' (p.files.length + 1) (flsCells p.files ++ [.string X, .string Y])) :
    PAt (w2.setCell ⟨pb, 4, none⟩ v') pb B { p with files := p.files ++ [⟨X.data.toList, Y.data.toList⟩] } nv bv v' := by
  obtain ⟨hk, hz⟩ := h.grown hb hg
  have hlt := h.lt
  have kk : ∀ g o, pb + 1 ≤ g → g < B → CellS w (w2.setCell ⟨pb, 4, none⟩ v') g o := fun g o hg' hgB => (setS (by omega)).trans (hk g o hgB).1
  refine ⟨?_, ?_, ?_, ?_, ?_, fun o => ?_, hlt, by rw [size_set]; exact Nat.le_trans h.le hz, h.needs.keep kk, h.bars.keep kk, ?_, h.nnil, fun e => by simp at e⟩
  · rw [cell_set_off _ _ _ _ _ (by decide), (hk pb 0 hlt).1.1]; exact h.c0
  · rw [cell_set_off _ _ _ _ _ (by decide), (hk pb 1 hlt).1.1]; exact h.c1
  · rw [cell_set_off _ _ _ _ _ (by decide), (hk pb 2 hlt).1.1]; exact h.c2
  · rw [cell_set_off _ _ _ _ _ (by decide), (hk pb 3 hlt).1.1]; exact h.c3
  · rw [World.cell?_setCell_same _ _ _ ((hk pb 4 hlt).1.1.trans h.c4)]
  · rw [World.frozen?_setCell, (hk pb o hlt).2]; exact h.fz o
  · have e : flsCells (p.files ++ [M.Fl.mk X.data.toList Y.data.toList]) = flsCells p.files ++ [.string X, .string Y] := flsCells_snoc _ _
    show World.ownsRow _ _ _ _ _ (p.files ++ [M.Fl.mk X.data.toList Y.data.toList]).length (flsCells (p.files ++ [M.Fl.mk X.data.toList Y.data.toList]))
    rw [e]
    exact ownsRow_setCell_below (by simpa using ho) hlt _
theorem fileEnd {F : Option M.Fl} {X Y : List UInt8} {p : M.Pk} {okb b : Bool} {r : Option M.Pk}
    (hr : r = (match F with | none => none | some f => if p.files.all (M.apart f) = true then some { p with files := p.files ++ [f] } else none)) (hF : flB F X Y) (ho : F.isSome = okb) (hb : b = (okb && p.files.all (M.apart ⟨X, Y⟩))) :
    r.isSome = b ∧ (∀ p', r = some p' → p' = { p with files := p.files ++ [⟨X, Y⟩] }) := by
  cases F with
  | none => simp at ho; subst ho hb hr; exact ⟨rfl, fun p' h => by cases h⟩
  | some f =>
    obtain ⟨h1, h2⟩ := hF f rfl
    obtain rfl : f = ⟨X, Y⟩ := by cases f; cases h1; cases h2; rfl
    simp at ho
    subst ho
    simp only [Bool.true_and] at hb
    subst hr hb
    by_cases ha : p.files.all (M.apart ⟨X, Y⟩) = true
    · simp only [ha, if_true]; exact ⟨rfl, fun p' h => by cases h; rfl⟩
    · rw [Bool.not_eq_true] at ha
      simp [ha]
set_option maxRecDepth 100000 in
set_option maxHeartbeats 2000000 in
theorem line_file (s : ByteArray) (k : Nat) (w : World) (pb B : Nat) (p : M.Pk) (nv bv fv : Value) (hP : PAt w pb B p nv bv fv) (hk : 0 < k) (hk2 : k ≤ 1000000) (hl : s.size ≤ 100000)
    (h3 : M.begins s.data.toList M.fileW = true) (h4 : p.files.length < 4) (hps : ∀ f ∈ p.files, f.path.length ≤ 1000000) :
    Calls Tryz.prog 37 #[.pointer (some ⟨pb, 0, none⟩), .int .i64 k, .string s] w (LinePost s k pb p w) := by
  obtain ⟨i0, hi0, hz0, hz1, hz2⟩ := info_parts infoFl
  have b1 : beginsB s needsT = false := excl h3 (by decide)
  have b2 : beginsB s barsT = false := excl h3 (by decide)
  have b3 : beginsB s fileT = true := h3
  have hs5 : 5 ≤ s.size := by unfold M.begins at h3; simp [M.fileW] at h3; omega
  have HE : Hid (M.lineS p k s.data.toList = (match fileB (s.extract 5 s.size) with | none => none | some f => if p.files.all (M.apart f) = true then some { p with files := p.files ++ [f] } else none)) := by
    show _ = _
    unfold M.lineS fileB
    rw [if_neg (by omega), if_neg (fun h => by rw [show M.begins s.data.toList M.needsW = false from b1] at h; exact absurd h.1 (by decide)), if_neg (fun h => by rw [show M.begins s.data.toList M.barsW = false from b2] at h; exact absurd h.1 (by decide)), if_pos ⟨h3, h4⟩, ext_from]
    cases M.fileS (s.data.toList.drop 5) <;> rfl
  have hk0 : ((k : Int) == 0) = false := by rw [beq_eq_false_iff_ne]; omega
  have HPS : Hid (∀ f ∈ p.files, f.path.length ≤ 1000000) := hps
  obtain ⟨an, cn, en⟩ := hP.needs.form
  obtain ⟨ab, cb, eb⟩ := hP.bars.form
  obtain ⟨af, cf, ef⟩ := own_form hP.files
  subst en eb ef
  clear h3 hps
  have q2 := hP.c2
  have q3 := hP.c3
  have q4 := hP.c4
  have cB := fun wx t => begins_any s t wx
  have cF := fun wx => file_any (s.extract 5 s.size) wx (by have := ext_size s 5 s.size; omega)
  go_enter Tryz.func37, Tryz.ntmps37
  go_wp2_with fail
  refine (cB _ needsT).mono ?_
  rintro e w' ⟨rfl, rfl⟩
  go_wp2_with fail
  refine (cB _ barsT).mono ?_
  rintro e w' ⟨rfl, rfl⟩
  go_wp2_with fail
  refine (cB _ fileT).mono ?_
  rintro e w' ⟨rfl, rfl⟩
  go_wp2
  go_quiet (fail)
  go_wp2
  go_quiet (fail)
  go_wp2_with fail
  refine (cF _).mono ?_
  rintro e w1 ⟨X, Y, rfl, hXY, hXs, hB1⟩
  have hXs' : X.size ≤ 1000000 := by have := ext_size s 5 s.size; omega
  clear hXs
  have hQ := (hP.below (below_same w' _)).below hB1
  have HQ : Hid (PAt w1 pb B p _ _ _) := hQ
  have r4 := hQ.c4
  have rf := hQ.fz
  have hpw : pb < w1.heap.size := Nat.lt_of_lt_of_le hQ.lt hQ.le
  have hown := hQ.files
  clear hQ q2 q3 q4 cB cF
  have HXY : Hid (flB (fileB (s.extract 5 s.size)) X.data.toList Y.data.toList) := hXY
  clear hXY
  obtain ⟨okb, HO⟩ : ∃ okb, Hid ((fileB (s.extract 5 s.size)).isSome = okb) := ⟨_, rfl⟩
  rw [HO.out]
  go_wp2
  go_loopw [20, 21, 22, 23] (fun o i _ _ wr => ∃ (n j : Nat) (b : Bool), o = .bool b ∧ i = .int .i64 j ∧ j ≤ p.files.length ∧ wr = (w1.alloc (.cells #[.string X, .string Y] 74)).drewN n ∧ Hid (b = (okb && (p.files.take j).all (M.apart ⟨X.data.toList, Y.data.toList⟩)))) (fun _ i _ _ _ => p.files.length - (intOf i).toNat)
  case atStart => exact ⟨0, 0, okb, rfl, rfl, Nat.zero_le _, rfl, by show _ = _; simp⟩
  case round =>
    obtain ⟨n, j, b, rfl, rfl, hj, rfl, HBb⟩ := hrel
    by_cases hlt : j < p.files.length
    · have hrow := RowIn.own hown
      obtain ⟨_, h0, _⟩ | ⟨g, cap, e, _, hgB, hg, hcells⟩ := hrow
      · omega
      · obtain ⟨rfl, -, rfl⟩ : af = some ⟨g, 0, none⟩ ∧ True ∧ cf = cap := by cases e; exact ⟨rfl, trivial, rfl⟩
        have cg : w1.cell? ⟨g, j * 2, none⟩ = some (.string ⟨p.files[j].path.toArray⟩) := hcells _ _ (by rw [Nat.mul_comm]; exact fl_cell hlt)
        have hGs : (ByteArray.mk p.files[j].path.toArray).size ≤ 1000000 := HPS.out _ (List.getElem_mem hlt)
        have HAT := all_take (M.apart ⟨X.data.toList, Y.data.toList⟩) p.files j hlt
        replace HAT : Hid _ := HAT
        obtain ⟨G, hG⟩ : ∃ G : ByteArray, G = ⟨p.files[j].path.toArray⟩ := ⟨_, rfl⟩
        have HG : Hid (p.files[j].path = G.data.toList) := by show _ = _; rw [hG]
        rw [← hG] at cg hGs
        clear hG e hcells
        have cO1 := fun wx => over_any X G wx hXs'
        have cO2 := fun wx => over_any G X wx hGs
        have HAP : Hid (M.apart ⟨X.data.toList, Y.data.toList⟩ p.files[j] = (!overB X G && !overB G X && !(X.toList == G.toList))) := by
          show _ = _; unfold M.apart overB; rw [HG.out, Lib.toList_data, Lib.toList_data]
        have hcase : ∃ r : Bool, Hid (r = (b && M.apart ⟨X.data.toList, Y.data.toList⟩ p.files[j])) ∧ ((b = false ∧ r = false) ∨ (b = true ∧ overB X G = true ∧ r = false) ∨ (b = true ∧ overB X G = false ∧ overB G X = true ∧ r = false) ∨
            (b = true ∧ overB X G = false ∧ overB G X = false ∧ (X.toList == G.toList) = true ∧ r = false) ∨ (b = true ∧ overB X G = false ∧ overB G X = false ∧ (X.toList == G.toList) = false ∧ r = true)) := by
          refine ⟨b && (!overB X G && !overB G X && !(X.toList == G.toList)), by show _ = _; rw [HAP.out], ?_⟩
          cases b <;> cases overB X G <;> cases overB G X <;> cases (X.toList == G.toList) <;> simp
        obtain ⟨r, HRr, hcase⟩ := hcase
        have HN : Hid (r = (okb && (p.files.take (j + 1)).all (M.apart ⟨X.data.toList, Y.data.toList⟩))) := by
          show _ = _; rw [HRr.out, HBb.out, HAT.out, Bool.and_assoc]
        clear HRr HBb HAT HAP
        rcases hcase with ⟨rfl, rfl⟩ | ⟨rfl, o1, rfl⟩ | ⟨rfl, o1, o2, rfl⟩ | ⟨rfl, o1, o2, o3, rfl⟩ | ⟨rfl, o1, o2, o3, rfl⟩
        all_goals
          go_wp2
          go_quiet ((go_at_call 64; go_must (exact quiet_add (cO1 _))))
          go_wp2
          go_quiet ((go_at_call 64; go_must (exact quiet_add (cO2 _))))
          go_wp2
          go_quiet (fail)
          go_wp2
          go_roundw
          case rel => exact ⟨_, j + 1, _, rfl, by go_num, by omega, by first | exact drewN_add _ _ _ | rfl, HN⟩
          case measure => simp [intOf]; omega
    · have HA : Hid (b = (okb && p.files.all (M.apart ⟨X.data.toList, Y.data.toList⟩))) := by
        show _ = _; rw [HBb.out, List.take_of_length_le (by omega)]
      clear HBb
      have hBl : B ≤ w1.heap.size := HQ.out.le
      have hpB : pb < B := HQ.out.lt
      have HPQ : Hid (∀ wx w2 v', Below w1.heap.size w1 wx → wx.grownBy w2 (Value.slice af p.files.length cf).ownBlock → w2.ownsRow B 74 2 v' (p.files.length + 1) (flsCells p.files ++ [.string X, .string Y]) →
          PAt (w2.setCell ⟨pb, 4, none⟩ v') pb B { p with files := p.files ++ [⟨X.data.toList, Y.data.toList⟩] } (.slice an p.needs.length cn) (.slice ab p.bars.length cb) v') := fun wx w2 v' a b c => PAt.files' HQ.out a b c
      have HPG : Hid (∀ wx w2, Below w1.heap.size w1 wx → wx.grownBy w2 (Value.slice af p.files.length cf).ownBlock → w2.cell? ⟨pb, 4, none⟩ = some (.slice af p.files.length cf) ∧ (∀ o, w2.frozen? ⟨pb, o, none⟩ = false)) := fun wx w2 a b => by
        obtain ⟨hk, _⟩ := HQ.out.grown a b
        exact ⟨(hk pb 4 hpB).1.1.trans HQ.out.c4, fun o => (hk pb o hpB).2.trans (HQ.out.fz o)⟩
      have HBL : Hid (∀ wx w2, Below pb w1 wx → wx.grownBy w2 (Value.slice af p.files.length cf).ownBlock → w1.heap.size ≤ wx.heap.size → Below pb w1 w2) := fun wx w2 a b c => a.grown b (by omega) (fun j hj => by have := (hown.lt j hj).1; omega)
      have HBX : Hid (∀ m, Below w1.heap.size w1 (((w1.alloc (.cells #[.string X, .string Y] 74)).drewN m).alloc (.cells #[.string X, .string Y] 74))) := fun m =>
        (below_drewN ((Below.refl _ w1).alloc (Nat.le_refl _) _) m).alloc (by simp) _
      go_wp2
      go_region_law (refine step_append_own rfl (.tmp 224) (.tmp 226) 28 rfl B 74 i0 (.agg #[.string ⟨#[]⟩, .string ⟨#[]⟩]) 2 32 Tryz.underlying28 hi0 hz0 hz1 hz2 rfl (by decide) _ _ _ (by simp [Act.eval]; rfl) (by exact (hown.alloc _).alloc _) ⟨w1.heap.size + 1, 0, none⟩ 1 1 [.string X, .string Y] (by simp [Act.eval]) rfl (new_cells2 w1 _ [.string X, .string Y] _) (by intro u hu; simp at hu; rcases hu with rfl | rfl <;> rfl) (by unfold maxLen; omega) (by omega) (by simp; omega) ?_; intro v' w2 hown' hgrow _; have s5 := HPG.out _ _ (HBX.out _) hgrow; have HPQ3 : Hid _ := HPQ.out _ _ _ (HBX.out _) hgrow hown'; have HBL2 : Hid (Below pb w1 w2) := HBL.out _ _ ((HBX.out _).mono (Nat.le_of_lt hpw)) hgrow (HBX.out _).size; obtain ⟨av, cv, ev⟩ := own_form hown'; subst ev; obtain ⟨s4, sf⟩ := s5)
      all_goals
        go_wp2
        go_ret
        obtain ⟨e1, e2⟩ := fileEnd HE.out HXY.out HO.out HA.out
        refine ⟨ret_bool e1.symm, fun p' hp' => ?_, ?_⟩
        · rw [e2 p' hp']; exact ⟨_, _, _, _, HPQ3.out⟩
        · exact (((below_same w' _).mono (Nat.le_of_lt (Nat.lt_of_lt_of_le hP.lt hP.le))).trans ((hB1.mono (Nat.le_of_lt (Nat.lt_of_lt_of_le hP.lt hP.le))).trans HBL2.out)).setCell (Nat.le_refl _) _
end Go.Proofs.YtgnfknjopafngaaGreatDoor
namespace Go.Proofs.YtgnfknjopafngaaGreatDoor
open Go.RowKit
set_option maxHeartbeats 1000000 in
theorem indexFunc_nil (fv : Value) (w : World) :
    Calls Tryz.prog 217 #[.slice none 0 0, fv] w fun e w' => e = .returned (.int .i64 (-1)) ∧ w' = w := by
  go_enter Tryz.func217, Tryz.ntmps217
  go_wp2
  refine wp_loop_rounds 1 ?_
  rw [rounds_succ]
  go_wp2
  go_ret
  exact ⟨rfl, rfl⟩
set_option maxHeartbeats 1000000 in
theorem containsFunc_nil (fv : Value) (w : World) :
    Calls Tryz.prog 173 #[.slice none 0 0, fv] w fun e w' => e = .returned (.bool false) ∧ w' = w := by
  have cI := indexFunc_nil fv
  go_enter Tryz.func173, Tryz.ntmps173
  go_wp2_with (go_at_call 217; refine (cI _).mono ?_; rintro e w' ⟨rfl, rfl⟩)
  go_ret
  exact ⟨rfl, rfl⟩
theorem fl_cell2' {l : List M.Fl} {k : Nat} (hk : k < l.length) : (flsCells l)[2 * k + 1]? = some (strV l[k].content) := by
  induction l generalizing k with
  | nil => simp at hk
  | cons f l ih =>
    cases k with
    | zero => simp [flsCells, flCells]
    | succ k =>
      have := ih (k := k) (by simpa using hk)
      simp only [flsCells, List.flatMap_cons, flCells] at this ⊢
      rw [show 2 * (k + 1) + 1 = 2 * k + 1 + 1 + 1 by omega]
      simpa using this
theorem sfls {l : List M.Fl} (h : ∀ f ∈ l, f.path.length ≤ 100000) : ∃ zs : List SFl, l = zs.map Subtype.val := by
  refine ⟨l.attach.map fun x => ⟨x.1, h x.1 x.2⟩, ?_⟩
  simp
theorem containsFunc_any (X : ByteArray) (fb B : Nat) (l : List M.Fl) (v : Value) (w : World) (hX : X.size ≤ 100000) (hf : w.cell? ⟨fb, 0, none⟩ = some (.string X)) (hl : l.length ≤ 1000000)
    (h : w.ownsRow B 159 2 v l.length (flsCells l)) (hs : ∀ f ∈ l, f.path.length ≤ 100000) :
    Calls Tryz.prog 173 #[v, .func (.func 174) #[] #[.pointer (some ⟨fb, 0, none⟩)]] w fun e w' => e = .returned (.bool (l.any fun g => clashS X.data.toList g.path)) ∧ Below w.heap.size w w' := by
  rcases RowIn.own h with ⟨rfl, h0, _⟩ | ⟨g, cap, rfl, h1, h2, h3, h4⟩
  · obtain rfl := List.length_eq_zero_iff.mp h0
    exact (containsFunc_nil _ w).mono fun e w' h => ⟨h.1, by rw [h.2]; exact Below.refl _ _⟩
  · obtain ⟨zs, rfl⟩ := sfls hs
    haveI : Inhabited SFl := ⟨⟨⟨[], []⟩, Nat.zero_le _⟩⟩
    have hc := AnyQ.slices_ContainsFunc Tryz.layContains 2 Tryz.isAgg159 Tryz.sizeOf159 sflCells (fun _ => rfl) (fun x : SFl => clashS X.data.toList x.1.path) 174 #[.pointer (some ⟨fb, 0, none⟩)]
      (enters_of Tryz.func174 (by kernel_rfl) rfl) g 0 (zs.map Subtype.val).length cap zs w
      (fun W x hb => (addClosure_any X fb x W hX ((hb.cell (p := ⟨fb, 0, none⟩) (World.block_lt_of_cell? _ _ hf)).trans hf)).mono fun e w' h => ⟨h.1, hb.trans (h.2.mono hb.size)⟩)
      (by simp) (by omega) h3.1 (fun j hj i u hu => by
        rw [Nat.zero_add]
        have e : zs[j]! = zs[j] := getElem!_pos zs j hj
        rw [e] at hu
        refine h4 (j * 2 + i) u ?_
        unfold sflCells at hu
        have hj' : j < (zs.map Subtype.val).length := by simpa using hj
        match i, hu with
        | 0, hu =>
          have := fl_cell hj'
          rw [Nat.add_zero, Nat.mul_comm, this]
          simpa using hu
        | 1, hu =>
          have := fl_cell2' hj'
          rw [Nat.mul_comm, this]
          simpa using hu)
    refine hc.mono fun e w' h => ⟨?_, h.2⟩
    rw [h.1]
    congr 2
    rw [List.take_of_length_le (by simp), List.any_map]
    rfl
end Go.Proofs.YtgnfknjopafngaaGreatDoor
