import Derived.Test.YtgnfknjopafngaaGreatDoorFmB
import Derived.RegionTactic
import Derived.BigRegion
/-
  THE DOCUMENT's ANSWER, WALKED: choice.
-/
namespace Go.Proofs.YtgnfknjopafngaaGreatDoor
open Go.RowKit

theorem own_slice {w : World} {B e n : Nat} {v : Value} {xs : List Value} (h : w.ownsRow B e 1 v n xs) (hn : 0 < n) :
    ∃ g cap, v = .slice (some ⟨g, 0, none⟩) n cap ∧ B ≤ g ∧ g < w.heap.size ∧ n ≤ cap ∧ ∀ j (hj : j < xs.length), w.cell? ⟨g, j, none⟩ = some xs[j] := by
  obtain ⟨hl, ⟨_, hz⟩ | ⟨g, cap, cur, rfl, hB, hb, hc, _, hs, ht⟩⟩ := h
  · omega
  · refine ⟨g, cap, rfl, hB, ?_, hc, fun j hj => ?_⟩
    · have := Array.getElem?_eq_some_iff.mp hb; exact this.1
    · subst ht
      simp only [List.length_take, Array.length_toList] at hj
      simp only [World.cell?, hb]
      rw [Array.getElem?_eq_getElem (by omega)]
      simp

/-- cut: its pieces, cell by cell. -/
theorem cut_c (s sep : ByteArray) (w : World) (hs : 0 < sep.size) (hl : s.size ≤ 1000000) (hl2 : sep.size ≤ 1000) (ps : List ByteArray) (hps : cutB s sep = ps.map (fun p => p.data.toList)) :
    Calls Tryz.prog 36 #[.string s, .string sep] w fun e w' => ∃ g cap, e = .returned (.slice (some ⟨g, 0, none⟩) ps.length cap) ∧ w.heap.size ≤ g ∧ g < w'.heap.size ∧ ps.length ≤ cap ∧
      (∀ j (hj : j < ps.length), w'.cell? ⟨g, j, none⟩ = some (.string ps[j])) ∧ Below w.heap.size w w' := by
  refine (cut_any s sep w hs hl hl2).mono fun e w' ⟨v, he, ho, hb⟩ => ?_
  have h0 := (M.cutS_len s.data.toList sep.data.toList).1
  obtain ⟨g, cap, rfl, h1, h2, h3, h4⟩ := own_slice ho h0
  have hn : (cutB s sep).length = ps.length := by rw [hps]; simp
  rw [hn] at he h3
  refine ⟨g, cap, he, h1, h2, h3, fun j hj => ?_, hb⟩
  rw [h4 j (by simp [hn]; exact hj)]
  simp [hps, strV]

theorem bytes_list (l : List (List UInt8)) : ∃ ps : List ByteArray, l = ps.map (fun p => p.data.toList) :=
  ⟨l.map (fun x => ⟨x.toArray⟩), by
    induction l with
    | nil => rfl
    | cons a l ih => simp only [List.map_cons]; rw [← ih]⟩
theorem piece_size {s sep : ByteArray} {ps : List ByteArray} (hps : cutB s sep = ps.map (fun p => p.data.toList)) (p : ByteArray) (hp : p ∈ ps) : p.size ≤ s.size := by
  have := M.cutS_mem s.data.toList sep.data.toList p.data.toList (by show _ ∈ cutB s sep; rw [hps]; exact List.mem_map.mpr ⟨p, hp, rfl⟩)
  simpa using this

def choiceB (s : ByteArray) : Option M.Ch := M.choiceS s.data.toList
def chB (x : Option M.Ch) (a b c : List UInt8) : Prop := ∀ y, x = some y → y.name = a ∧ y.sign = b ∧ y.ver = c
theorem chB_none (a b c : List UInt8) : chB none a b c := fun y h => by cases h
theorem chB_some (a b c : List UInt8) : chB (some ⟨a, b, c⟩) a b c := fun y h => by cases h; exact ⟨rfl, rfl, rfl⟩
theorem isSome_ite {α : Type} (b : Bool) (x : α) : (if b = true then some x else none).isSome = b := by cases b <;> rfl
theorem strV_of (s : ByteArray) : Value.string s = strV s.data.toList := rfl

theorem choice_1 (s P : ByteArray) (h : cutB s ⟨#[32]⟩ = [P.data.toList]) : choiceB s = if isNameB P = true then some ⟨s.data.toList, [], []⟩ else none := by
  unfold choiceB M.choiceS
  rw [show M.cutS s.data.toList [32] = cutB s ⟨#[32]⟩ from rfl, h]
  rfl
theorem choice_3 (s P0 P1 P2 : ByteArray) (h : cutB s ⟨#[32]⟩ = [P0.data.toList, P1.data.toList, P2.data.toList]) :
    choiceB s = if isNameB P0 = true ∧ 0 < P2.size ∧ isVerB (P2.extract 0 (P2.size - 1)) = true ∧ M.isSignP P1.data.toList = true ∧ ((P2.extract (P2.size - 1) P2.size).toList == [41]) = true then some ⟨P0.data.toList, P1.data.toList.drop 1, (P2.extract 0 (P2.size - 1)).data.toList⟩ else none := by
  unfold choiceB M.choiceS
  rw [show M.cutS s.data.toList [32] = cutB s ⟨#[32]⟩ from rfl, h, Lib.toList_data, ext_from, ext_upto]
  unfold isNameB isVerB
  rw [ext_upto]
  simp only [Array.length_toList, ByteArray.size_data]
theorem choice_no (s : ByteArray) (h1 : (cutB s ⟨#[32]⟩).length ≠ 1) (h3 : (cutB s ⟨#[32]⟩).length ≠ 3) : choiceB s = none := by
  unfold choiceB M.choiceS
  rw [show M.cutS s.data.toList [32] = cutB s ⟨#[32]⟩ from rfl]
  split
  · rename_i e; rw [e] at h1; simp at h1
  · rename_i e; rw [e] at h3; simp at h3
  · rfl

set_option maxRecDepth 100000 in
set_option maxHeartbeats 1000000 in
theorem choice_one (s P : ByteArray) (w : World) (hl : s.size ≤ 100000) (h : cutB s ⟨#[32]⟩ = [P.data.toList]) :
    Calls Tryz.prog 103 #[.string s] w fun e w' => ∃ a b c, e = .returned (.tuple #[.agg #[strV a, strV b, strV c], .bool (choiceB s).isSome]) ∧ chB (choiceB s) a b c ∧ Below w.heap.size w w' := by
  have hPl : P.size ≤ s.size := piece_size (ps := [P]) h P (by simp)
  have cC := fun wx => cut_c s ⟨#[32]⟩ wx (by decide) (by omega) (by decide) [P] h
  have HC : Hid (choiceB s = if isNameB P = true then some ⟨s.data.toList, [], []⟩ else none) := choice_1 s P h
  clear h
  go_enter Tryz.func103, Tryz.ntmps103
  go_wp2_with fail
  refine (cC _).mono ?_
  rintro e w1 ⟨g, cap, rfl, hg1, hg2, hcap, hc, hB⟩
  have c0 : w1.cell? ⟨g, 0, none⟩ = some (.string P) := hc 0 (by simp)
  clear hc cC
  obtain ⟨hcl, hfz⟩ := bcell hB
  have hz : w.heap.size < w1.heap.size := by have := hB.size; simp at this; omega
  simp only [List.length_cons, List.length_nil, Nat.zero_add] at hcap ⊢
  go_wp2_with (go_at_call 59; refine (isName_any _ _ (by omega)).mono ?_; rintro e w' ⟨rfl, rfl⟩)
  refine bodyPost_ret (v := .tuple #[.agg #[.string s, .string ⟨#[]⟩, .string ⟨#[]⟩], .bool (isNameB P)]) (by simp [results, Tryz.results103, go_sem, hcl]) rfl ⟨s.data.toList, [], [], ?_, ?_, ?_⟩
  · rw [HC.out, isSome_ite]; rfl
  · rw [HC.out]; split
    · exact chB_some _ _ _
    · exact chB_none _ _ _
  · exact (((bt ((Below.refl _ w).alloc (Nat.le_refl _) _) hB).setCell (Nat.le_refl _) _).setCell (Nat.le_refl _) _).setCell (Nat.le_refl _) _

set_option maxRecDepth 100000 in
set_option maxHeartbeats 1000000 in
theorem choice_many (s P : ByteArray) (ps : List ByteArray) (w : World) (hl : s.size ≤ 100000) (h : cutB s ⟨#[32]⟩ = (P :: ps).map (fun p => p.data.toList)) (h1 : ps.length ≠ 0) (h3 : ps.length ≠ 2) :
    Calls Tryz.prog 103 #[.string s] w fun e w' => ∃ a b c, e = .returned (.tuple #[.agg #[strV a, strV b, strV c], .bool (choiceB s).isSome]) ∧ chB (choiceB s) a b c ∧ Below w.heap.size w w' := by
  have hPl : P.size ≤ s.size := piece_size h P (by simp)
  have cC := fun wx => cut_c s ⟨#[32]⟩ wx (by decide) (by omega) (by decide) (P :: ps) h
  have HC : Hid (choiceB s = none) := choice_no s (by rw [h]; simp; exact fun e => h1 (by simp [e])) (by rw [h]; simp; omega)
  have hlen := (M.cutS_len s.data.toList [32]).2
  have hn : (P :: ps).length ≤ 100001 := by
    have e : (cutB s ⟨#[32]⟩).length = (P :: ps).length := by rw [h]; simp
    have : (cutB s ⟨#[32]⟩).length ≤ s.data.toList.length + 1 := hlen
    simp only [Array.length_toList, ByteArray.size_data] at this
    omega
  clear h hlen
  obtain ⟨n, hnn⟩ : ∃ n, n = (P :: ps).length := ⟨_, rfl⟩
  have g1 : n ≠ 1 := by rw [hnn]; simp; exact fun e => h1 (by simp [e])
  have g3 : n ≠ 3 := by rw [hnn]; simp; omega
  have g0 : 0 < n := by rw [hnn]; simp
  have t1 : ((n : Int) == 1) = false := by rw [beq_eq_false_iff_ne]; omega
  have t3 : ((n : Int) != 3) = true := by rw [bne_iff_ne]; omega
  have HN : Hid (n = (P :: ps).length) := hnn
  rw [← hnn] at hn
  clear hnn
  go_enter Tryz.func103, Tryz.ntmps103
  go_wp2_with fail
  refine (cC _).mono ?_
  rintro e w1 ⟨g, cap, rfl, hg1, hg2, hcap, hc, hB⟩
  have c0 : w1.cell? ⟨g, 0, none⟩ = some (.string P) := hc 0 (by simp)
  clear hc cC
  rw [← HN.out] at hcap ⊢
  obtain ⟨hcl, hfz⟩ := bcell hB
  have hz : w.heap.size < w1.heap.size := by have := hB.size; simp at this; omega
  go_wp2_with (go_at_call 59; refine (isName_any _ _ (by omega)).mono ?_; rintro e w' ⟨rfl, rfl⟩)
  refine bodyPost_ret (v := .tuple #[.agg #[.string ⟨#[]⟩, .string ⟨#[]⟩, .string ⟨#[]⟩], .bool false]) (by simp [results, Tryz.results103, go_sem, hcl]) rfl ⟨[], [], [], ?_, ?_, ?_⟩
  · rw [HC.out]; rfl
  · rw [HC.out]; exact chB_none _ _ _
  · exact (((bt ((Below.refl _ w).alloc (Nat.le_refl _) _) hB).setCell (Nat.le_refl _) _).setCell (Nat.le_refl _) _).setCell (Nat.le_refl _) _

/-- The five signs, tried in turn. -/
theorem sign5 {p : ByteArray} (h : M.isSignP p.data.toList = true) :
    ((p.toList == [40, 60, 60]) = true) ∨
    ((p.toList == [40, 60, 60]) = false ∧ (p.toList == [40, 60, 61]) = true) ∨
    ((p.toList == [40, 60, 60]) = false ∧ (p.toList == [40, 60, 61]) = false ∧ (p.toList == [40, 61]) = true) ∨
    ((p.toList == [40, 60, 60]) = false ∧ (p.toList == [40, 60, 61]) = false ∧ (p.toList == [40, 61]) = false ∧ (p.toList == [40, 62, 61]) = true) ∨
    ((p.toList == [40, 60, 60]) = false ∧ (p.toList == [40, 60, 61]) = false ∧ (p.toList == [40, 61]) = false ∧ (p.toList == [40, 62, 61]) = false ∧ (p.toList == [40, 62, 62]) = true) := by
  rw [← Lib.toList_data] at h
  unfold M.isSignP at h
  generalize (p.toList == [40, 60, 60]) = a at *
  generalize (p.toList == [40, 60, 61]) = b at *
  generalize (p.toList == [40, 61]) = c at *
  generalize (p.toList == [40, 62, 61]) = d at *
  generalize (p.toList == [40, 62, 62]) = e at *
  revert h
  cases a <;> cases b <;> cases c <;> cases d <;> cases e <;> decide
theorem sign0 {p : ByteArray} (h : ¬ M.isSignP p.data.toList = true) :
    (p.toList == [40, 60, 60]) = false ∧ (p.toList == [40, 60, 61]) = false ∧ (p.toList == [40, 61]) = false ∧ (p.toList == [40, 62, 61]) = false ∧ (p.toList == [40, 62, 62]) = false := by
  rw [← Lib.toList_data] at h
  unfold M.isSignP at h
  generalize (p.toList == [40, 60, 60]) = a at *
  generalize (p.toList == [40, 60, 61]) = b at *
  generalize (p.toList == [40, 61]) = c at *
  generalize (p.toList == [40, 62, 61]) = d at *
  generalize (p.toList == [40, 62, 62]) = e at *
  revert h
  cases a <;> cases b <;> cases c <;> cases d <;> cases e <;> decide
theorem sign_len {p : ByteArray} (h : M.isSignP p.data.toList = true) : 1 ≤ p.size := by
  by_cases e : p.size = 0
  · have : p.data.toList = [] := List.length_eq_zero_iff.mp (by simpa using e)
    rw [this] at h; exact absurd h (by decide)
  · omega

set_option maxRecDepth 100000 in
set_option maxHeartbeats 2000000 in
theorem choice_three (s P0 P1 P2 : ByteArray) (w : World) (hl : s.size ≤ 100000) (h : cutB s ⟨#[32]⟩ = [P0.data.toList, P1.data.toList, P2.data.toList]) :
    Calls Tryz.prog 103 #[.string s] w fun e w' => ∃ a b c, e = .returned (.tuple #[.agg #[strV a, strV b, strV c], .bool (choiceB s).isSome]) ∧ chB (choiceB s) a b c ∧ Below w.heap.size w w' := by
  have hP0 : P0.size ≤ s.size := piece_size (ps := [P0, P1, P2]) h P0 (by simp)
  have hP1 : P1.size ≤ s.size := piece_size (ps := [P0, P1, P2]) h P1 (by simp)
  have hP2 : P2.size ≤ s.size := piece_size (ps := [P0, P1, P2]) h P2 (by simp)
  have cC := fun wx => cut_c s ⟨#[32]⟩ wx (by decide) (by omega) (by decide) [P0, P1, P2] h
  have HC := choice_3 s P0 P1 P2 h
  replace HC : Hid _ := HC
  clear h
  by_cases hn : isNameB P0 = true
  · by_cases h2 : P2.size = 0
    · have HE : Hid (choiceB s = none) := by show _ = _; rw [HC.out, if_neg (fun h => by have := h.2.1; omega)]
      have h2' : ((P2.size : Int) == 0) = true := by rw [h2]; rfl
      clear h2 HC
      go_enter Tryz.func103, Tryz.ntmps103
      go_wp2_with fail
      refine (cC _).mono ?_
      rintro e w1 ⟨g, cap, rfl, hg1, hg2, hcap, hc, hB⟩
      have c0 : w1.cell? ⟨g, 0, none⟩ = some (.string P0) := hc 0 (by simp)
      have c2 : w1.cell? ⟨g, 2, none⟩ = some (.string P2) := hc 2 (by simp)
      clear hc cC
      obtain ⟨hcl, hfz⟩ := bcell hB
      have hz : w.heap.size < w1.heap.size := by have := hB.size; simp at this; omega
      simp only [List.length_cons, List.length_nil, Nat.zero_add] at hcap ⊢
      go_wp2_with (go_at_call 59; refine (isName_any _ _ (by omega)).mono ?_; rintro e w' ⟨rfl, rfl⟩)
      refine bodyPost_ret (v := .tuple #[.agg #[.string ⟨#[]⟩, .string ⟨#[]⟩, .string ⟨#[]⟩], .bool false]) (by simp [results, Tryz.results103, go_sem, hcl]) rfl ⟨[], [], [], ?_, ?_, ?_⟩
      · rw [HE.out]; rfl
      · rw [HE.out]; exact chB_none _ _ _
      · exact (((bt ((Below.refl _ w).alloc (Nat.le_refl _) _) hB).setCell (Nat.le_refl _) _).setCell (Nat.le_refl _) _).setCell (Nat.le_refl _) _
    · have h2' : ((P2.size : Int) == 0) = false := by rw [beq_eq_false_iff_ne]; omega
      have h2p : 0 < P2.size := by omega
      clear h2
      by_cases hsg : M.isSignP P1.data.toList = true
      · have hp1 : 1 ≤ P1.size := sign_len hsg
        by_cases hv : isVerB (P2.extract 0 (P2.size - 1)) = true
        · by_cases hla : ((P2.extract (P2.size - 1) P2.size).toList == [41]) = true
          · have HE : Hid (choiceB s = some ⟨P0.data.toList, P1.data.toList.drop 1, (P2.extract 0 (P2.size - 1)).data.toList⟩) := by
              show _ = _; rw [HC.out, if_pos ⟨hn, h2p, hv, hsg, hla⟩]
            clear HC
            rcases sign5 hsg with k1 | ⟨k1, k2⟩ | ⟨k1, k2, k3⟩ | ⟨k1, k2, k3, k4⟩ | ⟨k1, k2, k3, k4, k5⟩
            all_goals
              clear hsg
              go_enter Tryz.func103, Tryz.ntmps103
              go_wp2_with fail
              refine (cC _).mono ?_
              rintro e w1 ⟨g, cap, rfl, hg1, hg2, hcap, hc, hB⟩
              have c0 : w1.cell? ⟨g, 0, none⟩ = some (.string P0) := hc 0 (by simp)
              have c1 : w1.cell? ⟨g, 1, none⟩ = some (.string P1) := hc 1 (by simp)
              have c2 : w1.cell? ⟨g, 2, none⟩ = some (.string P2) := hc 2 (by simp)
              clear hc cC
              obtain ⟨hcl, hfz⟩ := bcell hB
              have hz : w.heap.size < w1.heap.size := by have := hB.size; simp at this; omega
              simp only [List.length_cons, List.length_nil, Nat.zero_add] at hcap ⊢
              go_wp2_with (first | (go_at_call 59; refine (isName_any _ _ (by omega)).mono ?_; rintro e w' ⟨rfl, rfl⟩) | (go_at_call 60; refine (isVersion_any _ _ (by simp; omega)).mono ?_; rintro e w' ⟨rfl, rfl⟩))
              go_region
              all_goals
                go_wp2
                refine bodyPost_ret (v := .tuple #[.agg #[.string P0, .string (P1.extract 1 P1.size), .string (P2.extract 0 (P2.size - 1))], .bool true]) (by simp [results, Tryz.results103, go_sem, hcl]) rfl ⟨P0.data.toList, P1.data.toList.drop 1, (P2.extract 0 (P2.size - 1)).data.toList, ?_, ?_, ?_⟩
                · rw [HE.out, strV_of, strV_of, strV_of, ext_from]; rfl
                · rw [HE.out]; exact chB_some _ _ _
                · exact ((((bt ((Below.refl _ w).alloc (Nat.le_refl _) _) hB).setCell (Nat.le_refl _) _).setCell (Nat.le_refl _) _).setCell (Nat.le_refl _) _).drew
          · have HE : Hid (choiceB s = none) := by show _ = _; rw [HC.out, if_neg (fun h => hla h.2.2.2.2)]
            have hla' : ((P2.extract (P2.size - 1) P2.size).toList == [41]) = false := by simpa using hla
            clear HC hla
            rcases sign5 hsg with k1 | ⟨k1, k2⟩ | ⟨k1, k2, k3⟩ | ⟨k1, k2, k3, k4⟩ | ⟨k1, k2, k3, k4, k5⟩
            all_goals
              clear hsg
              go_enter Tryz.func103, Tryz.ntmps103
              go_wp2_with fail
              refine (cC _).mono ?_
              rintro e w1 ⟨g, cap, rfl, hg1, hg2, hcap, hc, hB⟩
              have c0 : w1.cell? ⟨g, 0, none⟩ = some (.string P0) := hc 0 (by simp)
              have c1 : w1.cell? ⟨g, 1, none⟩ = some (.string P1) := hc 1 (by simp)
              have c2 : w1.cell? ⟨g, 2, none⟩ = some (.string P2) := hc 2 (by simp)
              clear hc cC
              obtain ⟨hcl, hfz⟩ := bcell hB
              have hz : w.heap.size < w1.heap.size := by have := hB.size; simp at this; omega
              simp only [List.length_cons, List.length_nil, Nat.zero_add] at hcap ⊢
              go_wp2_with (first | (go_at_call 59; refine (isName_any _ _ (by omega)).mono ?_; rintro e w' ⟨rfl, rfl⟩) | (go_at_call 60; refine (isVersion_any _ _ (by simp; omega)).mono ?_; rintro e w' ⟨rfl, rfl⟩))
              refine bodyPost_ret (v := .tuple #[.agg #[.string ⟨#[]⟩, .string ⟨#[]⟩, .string ⟨#[]⟩], .bool false]) (by simp [results, Tryz.results103, go_sem, hcl]) rfl ⟨[], [], [], ?_, ?_, ?_⟩
              · rw [HE.out]; rfl
              · rw [HE.out]; exact chB_none _ _ _
              · exact (((bt ((Below.refl _ w).alloc (Nat.le_refl _) _) hB).setCell (Nat.le_refl _) _).setCell (Nat.le_refl _) _).setCell (Nat.le_refl _) _
        · have HE : Hid (choiceB s = none) := by show _ = _; rw [HC.out, if_neg (fun h => hv h.2.2.1)]
          have hv' : isVerB (P2.extract 0 (P2.size - 1)) = false := by simpa using hv
          clear HC hv
          rcases sign5 hsg with k1 | ⟨k1, k2⟩ | ⟨k1, k2, k3⟩ | ⟨k1, k2, k3, k4⟩ | ⟨k1, k2, k3, k4, k5⟩
          all_goals
            clear hsg
            go_enter Tryz.func103, Tryz.ntmps103
            go_wp2_with fail
            refine (cC _).mono ?_
            rintro e w1 ⟨g, cap, rfl, hg1, hg2, hcap, hc, hB⟩
            have c0 : w1.cell? ⟨g, 0, none⟩ = some (.string P0) := hc 0 (by simp)
            have c1 : w1.cell? ⟨g, 1, none⟩ = some (.string P1) := hc 1 (by simp)
            have c2 : w1.cell? ⟨g, 2, none⟩ = some (.string P2) := hc 2 (by simp)
            clear hc cC
            obtain ⟨hcl, hfz⟩ := bcell hB
            have hz : w.heap.size < w1.heap.size := by have := hB.size; simp at this; omega
            simp only [List.length_cons, List.length_nil, Nat.zero_add] at hcap ⊢
            go_wp2_with (first | (go_at_call 59; refine (isName_any _ _ (by omega)).mono ?_; rintro e w' ⟨rfl, rfl⟩) | (go_at_call 60; refine (isVersion_any _ _ (by simp; omega)).mono ?_; rintro e w' ⟨rfl, rfl⟩))
            refine bodyPost_ret (v := .tuple #[.agg #[.string ⟨#[]⟩, .string ⟨#[]⟩, .string ⟨#[]⟩], .bool false]) (by simp [results, Tryz.results103, go_sem, hcl]) rfl ⟨[], [], [], ?_, ?_, ?_⟩
            · rw [HE.out]; rfl
            · rw [HE.out]; exact chB_none _ _ _
            · exact (((bt ((Below.refl _ w).alloc (Nat.le_refl _) _) hB).setCell (Nat.le_refl _) _).setCell (Nat.le_refl _) _).setCell (Nat.le_refl _) _
      · have HE : Hid (choiceB s = none) := by show _ = _; rw [HC.out, if_neg (fun h => hsg h.2.2.2.1)]
        obtain ⟨k1, k2, k3, k4, k5⟩ := sign0 hsg
        clear HC hsg
        by_cases hv : isVerB (P2.extract 0 (P2.size - 1)) = true
        all_goals
            first | (have hv' : isVerB (P2.extract 0 (P2.size - 1)) = false := by simpa using hv) | skip
            go_enter Tryz.func103, Tryz.ntmps103
            go_wp2_with fail
            refine (cC _).mono ?_
            rintro e w1 ⟨g, cap, rfl, hg1, hg2, hcap, hc, hB⟩
            have c0 : w1.cell? ⟨g, 0, none⟩ = some (.string P0) := hc 0 (by simp)
            have c1 : w1.cell? ⟨g, 1, none⟩ = some (.string P1) := hc 1 (by simp)
            have c2 : w1.cell? ⟨g, 2, none⟩ = some (.string P2) := hc 2 (by simp)
            clear hc cC
            obtain ⟨hcl, hfz⟩ := bcell hB
            have hz : w.heap.size < w1.heap.size := by have := hB.size; simp at this; omega
            simp only [List.length_cons, List.length_nil, Nat.zero_add] at hcap ⊢
            go_wp2_with (first | (go_at_call 59; refine (isName_any _ _ (by omega)).mono ?_; rintro e w' ⟨rfl, rfl⟩) | (go_at_call 60; refine (isVersion_any _ _ (by simp; omega)).mono ?_; rintro e w' ⟨rfl, rfl⟩))
            refine bodyPost_ret (v := .tuple #[.agg #[.string ⟨#[]⟩, .string ⟨#[]⟩, .string ⟨#[]⟩], .bool false]) (by simp [results, Tryz.results103, go_sem, hcl]) rfl ⟨[], [], [], ?_, ?_, ?_⟩
            · rw [HE.out]; rfl
            · rw [HE.out]; exact chB_none _ _ _
            · exact (((bt ((Below.refl _ w).alloc (Nat.le_refl _) _) hB).setCell (Nat.le_refl _) _).setCell (Nat.le_refl _) _).setCell (Nat.le_refl _) _
  · have hn' : isNameB P0 = false := by simpa using hn
    have HE : Hid (choiceB s = none) := by show _ = _; rw [HC.out, if_neg (fun h => hn h.1)]
    clear hn HC
    go_enter Tryz.func103, Tryz.ntmps103
    go_wp2_with fail
    refine (cC _).mono ?_
    rintro e w1 ⟨g, cap, rfl, hg1, hg2, hcap, hc, hB⟩
    have c0 : w1.cell? ⟨g, 0, none⟩ = some (.string P0) := hc 0 (by simp)
    clear hc cC
    obtain ⟨hcl, hfz⟩ := bcell hB
    have hz : w.heap.size < w1.heap.size := by have := hB.size; simp at this; omega
    simp only [List.length_cons, List.length_nil, Nat.zero_add] at hcap ⊢
    go_wp2_with (go_at_call 59; refine (isName_any _ _ (by omega)).mono ?_; rintro e w' ⟨rfl, rfl⟩)
    refine bodyPost_ret (v := .tuple #[.agg #[.string ⟨#[]⟩, .string ⟨#[]⟩, .string ⟨#[]⟩], .bool false]) (by simp [results, Tryz.results103, go_sem, hcl]) rfl ⟨[], [], [], ?_, ?_, ?_⟩
    · rw [HE.out]; rfl
    · rw [HE.out]; exact chB_none _ _ _
    · exact (((bt ((Below.refl _ w).alloc (Nat.le_refl _) _) hB).setCell (Nat.le_refl _) _).setCell (Nat.le_refl _) _).setCell (Nat.le_refl _) _

theorem choice_any (s : ByteArray) (w : World) (hl : s.size ≤ 100000) :
    Calls Tryz.prog 103 #[.string s] w fun e w' => ∃ a b c, e = .returned (.tuple #[.agg #[strV a, strV b, strV c], .bool (choiceB s).isSome]) ∧ chB (choiceB s) a b c ∧ Below w.heap.size w w' := by
  obtain ⟨ps, hps⟩ := bytes_list (cutB s ⟨#[32]⟩)
  have h0 : 0 < (cutB s ⟨#[32]⟩).length := (M.cutS_len s.data.toList [32]).1
  match ps, hps with
  | [], hps => rw [hps] at h0; simp at h0
  | [P], hps => exact choice_one s P w hl hps
  | [P0, P1, P2], hps => exact choice_three s P0 P1 P2 w hl hps
  | [P, Q], hps => exact choice_many s P [Q] w hl hps (by simp) (by simp)
  | P :: Q :: R :: T :: ps, hps => exact choice_many s P (Q :: R :: T :: ps) w hl hps (by simp) (by simp)
end Go.Proofs.YtgnfknjopafngaaGreatDoor
/-
  THE DOCUMENT's ANSWER, WALKED: choices, isPath, file.
-/
namespace Go.Proofs.YtgnfknjopafngaaGreatDoor
open Go.RowKit

theorem infoCh : (Tryz.prog.info? 125).map (fun i => (i.zero, i.size, i.bytes)) = some (some (.agg #[.string ⟨#[]⟩, .string ⟨#[]⟩, .string ⟨#[]⟩]), 3, 48) := by kernel_rfl
def chCells (c : M.Ch) : List Value := [strV c.name, strV c.sign, strV c.ver]
def chsCells (l : List M.Ch) : List Value := l.flatMap chCells
theorem chsCells_len (l : List M.Ch) : (chsCells l).length = l.length * 3 := by
  induction l with
  | nil => rfl
  | cons c l ih => simp only [chsCells, List.flatMap_cons, List.length_append] at ih ⊢; rw [ih]; simp [chCells]; omega
theorem chsCells_snoc (l : List M.Ch) (c : M.Ch) : chsCells (l ++ [c]) = chsCells l ++ [strV c.name, strV c.sign, strV c.ver] := by
  simp [chsCells, chCells]

def choicesB (s sep : ByteArray) (most : Nat) : Option (List M.Ch) := M.choicesS s.data.toList sep.data.toList most

/-- The first pieces are choices. -/
def preS (ps : List ByteArray) (k : Nat) (l : List M.Ch) : Prop := M.allS M.choiceS ((ps.take k).map (fun p => p.data.toList)) = some l
theorem allS_snoc {α : Type} (f : List UInt8 → Option α) : ∀ (l : List (List UInt8)) (r : List α) (s : List UInt8), M.allS f l = some r → M.allS f (l ++ [s]) = (f s).map (fun c => r ++ [c])
  | [], r, s, h => by
    simp only [M.allS, Option.some.injEq] at h
    subst h
    simp only [List.nil_append, M.allS]
    cases f s <;> rfl
  | x :: l, r, s, h => by
    simp only [M.allS] at h
    simp only [List.cons_append, M.allS]
    cases hx : f x with
    | none => rw [hx] at h; cases h
    | some c =>
      rw [hx] at h
      cases hl : M.allS f l with
      | none => rw [hl] at h; cases h
      | some t =>
        rw [hl] at h
        cases h
        rw [allS_snoc f l t s hl]
        cases f s <;> rfl
theorem allS_stop {α : Type} (f : List UInt8 → Option α) : ∀ (l m : List (List UInt8)), M.allS f l = none → M.allS f (l ++ m) = none
  | [], m, h => by simp [M.allS] at h
  | x :: l, m, h => by
    simp only [M.allS] at h
    simp only [List.cons_append, M.allS]
    cases hx : f x with
    | none => rfl
    | some c =>
      rw [hx] at h
      cases hl : M.allS f l with
      | none => rw [allS_stop f l m hl]
      | some t => rw [hl] at h; cases h
theorem allS_len {α : Type} (f : List UInt8 → Option α) : ∀ (l : List (List UInt8)) (r : List α), M.allS f l = some r → r.length = l.length
  | [], r, h => by simp [M.allS] at h; subst h; rfl
  | x :: l, r, h => by
    simp only [M.allS] at h
    cases hx : f x with
    | none => rw [hx] at h; cases h
    | some c =>
      rw [hx] at h
      cases hl : M.allS f l with
      | none => rw [hl] at h; cases h
      | some t => rw [hl] at h; cases h; simp [allS_len f l t hl]
theorem pre_go {ps : List ByteArray} {k : Nat} {l : List M.Ch} (h : preS ps k l) (hk : k < ps.length) (c : M.Ch) (hc : choiceB ps[k] = some c) : preS ps (k + 1) (l ++ [c]) := by
  unfold preS at h ⊢
  rw [List.take_add_one, List.getElem?_eq_getElem hk]
  simp only [Option.toList_some, List.map_append, List.map_cons, List.map_nil]
  rw [allS_snoc _ _ _ _ h, show M.choiceS ps[k].data.toList = some c from hc]
  rfl
theorem pre_no {ps : List ByteArray} {k : Nat} {l : List M.Ch} (h : preS ps k l) (hk : k < ps.length) (hc : choiceB ps[k] = none) : M.allS M.choiceS (ps.map (fun p => p.data.toList)) = none := by
  unfold preS at h
  have e : ps.map (fun p => p.data.toList) = ((ps.take k).map (fun p => p.data.toList) ++ [ps[k].data.toList]) ++ (ps.drop (k + 1)).map (fun p => p.data.toList) := by
    have e1 : ps = (ps.take k ++ [ps[k]]) ++ ps.drop (k + 1) := by
      rw [List.append_assoc, List.singleton_append, ← List.drop_eq_getElem_cons hk, List.take_append_drop]
    have e2 := congrArg (List.map (fun p : ByteArray => p.data.toList)) e1
    rw [List.map_append, List.map_append] at e2
    exact e2
  rw [e]
  exact allS_stop _ _ _ (by rw [allS_snoc _ _ _ _ h, show M.choiceS ps[k].data.toList = none from hc]; rfl)

theorem choice_c (s : ByteArray) (w : World) (hl : s.size ≤ 100000) :
    Calls Tryz.prog 103 #[.string s] w fun e w' => ∃ A B C : ByteArray, e = .returned (.tuple #[.agg #[.string A, .string B, .string C], .bool (choiceB s).isSome]) ∧ chB (choiceB s) A.data.toList B.data.toList C.data.toList ∧ Below w.heap.size w w' := by
  refine (choice_any s w hl).mono fun e w' ⟨a, b, c, he, hc, hb⟩ => ⟨⟨a.toArray⟩, ⟨b.toArray⟩, ⟨c.toArray⟩, he, hc, hb⟩
theorem own_below {w w' : World} {B e size n : Nat} {v : Value} {xs : List Value} (h : w.ownsRow B e size v n xs) (hb : Below w.heap.size w w') : w'.ownsRow B e size v n xs :=
  h.kept (row := none) ⟨hb.os, hb.tape, hb.output, hb.size, fun k hk _ => hb.block k hk⟩ (by cases hv : v.ownBlock with | none => exact .inl rfl | some k => exact .inr (by simp))
theorem own_form {w : World} {B e size n : Nat} {v : Value} {xs : List Value} (h : w.ownsRow B e size v n xs) : ∃ a cap, v = .slice a n cap := by
  obtain ⟨_, ⟨rfl, rfl⟩ | ⟨g, cap, cur, rfl, _⟩⟩ := h
  · exact ⟨_, _, rfl⟩
  · exact ⟨_, _, rfl⟩
theorem own_base {w : World} {B B' e size n : Nat} {v : Value} {xs : List Value} (h : w.ownsRow B e size v n xs) (hB : B' ≤ B) : w.ownsRow B' e size v n xs := by
  obtain ⟨hl, h | ⟨g, cap, cur, h1, h2, h3⟩⟩ := h
  · exact ⟨hl, .inl h⟩
  · exact ⟨hl, .inr ⟨g, cap, cur, h1, by omega, h3⟩⟩
theorem new_cells (w : World) (xs : List Value) (t : TypeId) : ∀ j u, xs[j]? = some u → (w.alloc (.cells xs.toArray t)).cell? ((⟨w.heap.size, 0, none⟩ : Addr).add j) = some u := by
  intro j u hj
  have e : (w.alloc (.cells xs.toArray t)).heap[w.heap.size]? = some (.cells xs.toArray t) := (MapKept.heap_alloc w _).1
  have e2 : ((⟨w.heap.size, 0, none⟩ : Addr).add j) = ⟨w.heap.size, j, none⟩ := by unfold Addr.add; by_cases h : j = 0 <;> simp [h]
  rw [e2]
  simp only [World.cell?, e]
  simpa using hj
theorem new_cells2 (w : World) (o : Obj) (xs : List Value) (t : TypeId) : ∀ j u, xs[j]? = some u → ((w.alloc o).alloc (.cells xs.toArray t)).cell? ((⟨w.heap.size + 1, 0, none⟩ : Addr).add j) = some u := by
  have h := new_cells (w.alloc o) xs t
  have e : (w.alloc o).heap.size = w.heap.size + 1 := by simp
  rw [e] at h
  exact h

set_option maxRecDepth 100000 in
set_option maxHeartbeats 1000000 in
theorem choices_any (s sep : ByteArray) (most : Int) (w : World) (hs : 0 < sep.size) (hl : s.size ≤ 100000) (hl2 : sep.size ≤ 1000) (hm : 0 ≤ most) :
    Calls Tryz.prog 62 #[.string s, .string sep, .int .i64 most] w fun e w' => ∃ v l, e = .returned (.tuple #[v, .bool (choicesB s sep most.toNat).isSome]) ∧
      w'.ownsRow w.heap.size 125 3 v l.length (chsCells l) ∧ (∀ x, choicesB s sep most.toNat = some x → x = l) ∧ l.length ≤ s.size + 1 ∧ Below w.heap.size w w' := by
  obtain ⟨i0, hi0, hz0, hz1, hz2⟩ := info_parts infoCh
  obtain ⟨ps, hps⟩ := bytes_list (cutB s sep)
  have HP : Hid (cutB s sep = ps.map (fun p => p.data.toList)) := hps
  have hpn : ps.length ≤ s.size + 1 := by
    have := (M.cutS_len s.data.toList sep.data.toList).2
    have e : (cutB s sep).length = ps.length := by rw [hps]; simp
    have : (cutB s sep).length ≤ s.data.toList.length + 1 := this
    simp only [Array.length_toList, ByteArray.size_data] at this
    omega
  have cC := fun wx => cut_c s sep wx hs (by omega) hl2 ps hps
  have hsz : ∀ p ∈ ps, p.size ≤ s.size := fun p hp => piece_size hps p hp
  have HZ : Hid (∀ p ∈ ps, p.size ≤ s.size) := hsz
  clear hps hsz
  go_enter Tryz.func62, Tryz.ntmps62
  go_wp2_with fail
  refine (cC _).mono ?_
  rintro e w1 ⟨g, cap, rfl, hg1, hg2, hcap, hc, hB⟩
  clear cC
  have HC : Hid (∀ j (hj : j < ps.length), w1.cell? ⟨g, j, none⟩ = some (.string ps[j])) := hc
  clear hc
  have hB0 : Below w.heap.size w w1 := hB
  go_wp2
  go_loopw [9, 10, 11, 12] (fun v i _ _ wr => ∃ (l : List M.Ch) (k : Nat), i = .int .i64 k ∧ k ≤ ps.length ∧ l.length = k ∧ wr.ownsRow w1.heap.size 125 3 v k (chsCells l) ∧ Below w1.heap.size w1 wr ∧ Hid (preS ps k l)) (fun _ i _ _ _ => ps.length - (intOf i).toNat)
  case atStart => exact ⟨[], 0, rfl, Nat.zero_le _, rfl, World.ownsRow_nil _ _ _ _, Below.refl _ _, rfl⟩
  case round =>
    obtain ⟨l, k, rfl, hk, hlk, hown, hBr, HR⟩ := hrel
    have hsr := hBr.size
    by_cases hlt : k < ps.length
    · have ck : wr.cell? ⟨g, k, none⟩ = some (.string ps[k]) := (hBr.cell (p := ⟨g, k, none⟩) hg2).trans (HC.out k hlt)
      have hpk : ps[k].size ≤ s.size := HZ.out _ (List.getElem_mem hlt)
      cases hch : choiceB ps[k] with
      | none =>
        have cK := fun wx => choice_c ps[k] wx (by omega)
        rw [hch] at cK
        have HE : Hid (choicesB s sep most.toNat = none) := by
          show M.choicesS _ _ _ = _
          unfold M.choicesS
          rw [show M.cutS s.data.toList sep.data.toList = cutB s sep from rfl, HP.out, pre_no HR.out hlt hch]
        clear hch
        go_wp2_with fail
        refine (cK _).mono ?_
        rintro e w2 ⟨A, B, C, rfl, _, hB2⟩
        clear cK
        go_wp2
        go_ret2
        refine ⟨_, [], ?_, World.ownsRow_nil _ _ _ _, ?_, Nat.zero_le _, ?_⟩
        · rw [HE.out]; rfl
        · intro x hx; rw [HE.out] at hx; cases hx
        · exact (bt hB0 (bt hBr hB2)).alloc (by have := hB2.size; have := hB0.size; omega) _
      | some c =>
        have cK := fun wx => choice_c ps[k] wx (by omega)
        rw [hch] at cK
        have HC2 : Hid (choiceB ps[k] = some c) := hch
        clear hch
        go_wp2_with fail
        refine (cK _).mono ?_
        rintro e w2 ⟨A, B, C, rfl, hABC, hB2⟩
        clear cK
        have HK : Hid (chB (some c) A.data.toList B.data.toList C.data.toList) := hABC
        clear hABC
        have hown2 := own_below hown hB2
        have hs2 := hB2.size
        go_wp2_with (at_builtin; refine wpList_append_own _ rfl _ _ 27 rfl w1.heap.size 125 i0 (.agg #[.string ⟨#[]⟩, .string ⟨#[]⟩, .string ⟨#[]⟩]) 3 48 Tryz.underlying27 hi0 hz0 hz1 hz2 rfl (by decide) _ _ _ rfl ((hown2.alloc _).alloc _) ⟨w2.heap.size + 1, 0, none⟩ 1 1 [.string A, .string B, .string C] rfl rfl ?c1 ?c2 ?c3 ?c4 ?c5 ?_)
        case c1 => exact new_cells2 _ _ [.string A, .string B, .string C] _
        case c2 => intro u hu; simp at hu; rcases hu with rfl | rfl | rfl <;> rfl
        case c3 => unfold maxLen; omega
        case c4 => omega
        case c5 => simp; omega
        intro v' w3 hown' hgrow _
        have R1 : w3.ownsRow w1.heap.size 125 3 v' (k + 1) (chsCells (l ++ [c])) := by
          obtain ⟨e1, e2, e3⟩ := HK.out c rfl
          rw [chsCells_snoc, e1, e2, e3]; exact hown'
        have R2 : Below w1.heap.size w1 w3 :=
          (((hBr.trans (hB2.mono hsr)).alloc (by omega) _).alloc (by simp; omega) _).grown hgrow (by simp; omega) (fun j hj => (hown.lt j hj).1)
        clear hown' hgrow hown hown2
        go_wp2
        go_roundw
        case rel => exact ⟨_, k + 1, by go_num, by omega, by simp; omega, R1, R2, pre_go HR.out hlt c HC2.out⟩
        case measure => simp [intOf]; omega
    · have hkk : k = ps.length := by omega
      have HE : Hid (choicesB s sep most.toNat = if l.length ≤ most.toNat then some l else none) := by
        have h := HR.out
        unfold preS at h
        rw [hkk, List.take_length] at h
        show M.choicesS _ _ _ = _
        unfold M.choicesS
        rw [show M.cutS s.data.toList sep.data.toList = cutB s sep from rfl, HP.out, h]
      obtain ⟨av, cv, hv⟩ := own_form hown
      subst hv
      by_cases hm2 : (k : Int) ≤ most
      · have HE2 : Hid (choicesB s sep most.toNat = some l) := by show _ = _; rw [HE.out, if_pos (by omega)]
        clear hkk HE
        go_wp2
        go_ret2
        refine ⟨_, l, ?_, by rw [hlk]; exact own_base hown hB0.size, ?_, by omega, bt hB0 hBr⟩
        · rw [HE2.out]; rfl
        · intro x hx; rw [HE2.out] at hx; cases hx; rfl
      · have HE2 : Hid (choicesB s sep most.toNat = none) := by show _ = _; rw [HE.out, if_neg (by omega)]
        clear hkk HE
        go_wp2
        go_ret2
        refine ⟨.slice av k cv, ?_, l, ?_, ?_, ?_, bt hB0 hBr⟩
        · rw [HE2.out]; rfl
        · rw [hlk]; exact own_base hown hB0.size
        · intro x hx; rw [HE2.out] at hx; cases hx
        · omega

def isPathB (s : ByteArray) : Bool := M.isPathS s.data.toList
def partOk (q : List UInt8) : Bool := M.made M.partP 1 8 q && !(q == [46]) && !(q == [46, 46])
theorem isPath_eq (s : ByteArray) (ps : List ByteArray) (h : cutB s ⟨#[47]⟩ = ps.map (fun p => p.data.toList)) :
    isPathB s = (ps.all (fun p => partOk p.data.toList) && decide (ps.length ≤ 3)) := by
  unfold isPathB M.isPathS
  rw [show M.cutS s.data.toList [47] = cutB s ⟨#[47]⟩ from rfl, h, List.all_map, List.length_map]
  rfl

set_option maxRecDepth 100000 in
set_option maxHeartbeats 1000000 in
theorem isPath_any (s : ByteArray) (w : World) (hl : s.size ≤ 100000) :
    Calls Tryz.prog 104 #[.string s] w fun e w' => e = .returned (.bool (isPathB s)) ∧ Below w.heap.size w w' := by
  obtain ⟨ps, hps⟩ := bytes_list (cutB s ⟨#[47]⟩)
  have HI : Hid (isPathB s = (ps.all (fun p => partOk p.data.toList) && decide (ps.length ≤ 3))) := isPath_eq s ps hps
  have hpn : ps.length ≤ s.size + 1 := by
    have := (M.cutS_len s.data.toList [47]).2
    have e : (cutB s ⟨#[47]⟩).length = ps.length := by rw [hps]; simp
    have : (cutB s ⟨#[47]⟩).length ≤ s.data.toList.length + 1 := this
    simp only [Array.length_toList, ByteArray.size_data] at this
    omega
  have cC := fun wx => cut_c s ⟨#[47]⟩ wx (by decide) (by omega) (by decide) ps hps
  have HZ : Hid (∀ p ∈ ps, p.size ≤ s.size) := fun p hp => piece_size hps p hp
  clear hps
  go_enter Tryz.func104, Tryz.ntmps104
  go_wp2_with fail
  refine (cC _).mono ?_
  rintro e w1 ⟨g, cap, rfl, hg1, hg2, hcap, hc, hB⟩
  clear cC
  have HC : Hid (∀ j (hj : j < ps.length), w1.cell? ⟨g, j, none⟩ = some (.string ps[j])) := hc
  clear hc
  go_wp2
  go_loop [4, 5] (fun i _ => ∃ k : Nat, i = .int .i64 k ∧ k ≤ ps.length ∧ Hid (∀ j (h : j < ps.length), j < k → partOk ps[j].data.toList = true)) (fun i _ => ps.length - (intOf i).toNat)
  case atStart => exact ⟨0, rfl, Nat.zero_le _, fun j _ h => by omega⟩
  case round =>
    obtain ⟨k, rfl, hk, HA⟩ := hrel
    by_cases hlt : k < ps.length
    · have ck : w1.cell? ⟨g, k, none⟩ = some (.string ps[k]) := HC.out k hlt
      have hpk : ps[k].size ≤ s.size := HZ.out _ (List.getElem_mem hlt)
      have cM : ∀ wx, Calls Tryz.prog 101 #[.string ps[k], .string partT, .int .i64 1, .int .i64 8] wx fun e w' => e = .returned (.bool (madeB M.partP 1 8 ps[k])) ∧ w' = wx := fun wx =>
        made_any partT M.partP part_set 1 8 (by decide) (by decide) (by decide) ps[k] wx (by omega)
      by_cases hok : partOk ps[k].data.toList = true
      · have h1 : madeB M.partP 1 8 ps[k] = true := by unfold partOk at hok; simp at hok; exact hok.1.1
        have h2 : (ps[k].toList == [46]) = false := by rw [Lib.toList_data]; unfold partOk at hok; simp at hok; simpa using hok.1.2
        have h3 : (ps[k].toList == [46, 46]) = false := by rw [Lib.toList_data]; unfold partOk at hok; simp at hok; simpa using hok.2
        have HO : Hid (partOk ps[k].data.toList = true) := hok
        clear hok
        go_wp2_with (go_at_call 101; refine (cM _).mono ?_; rintro e w' ⟨rfl, rfl⟩)
        go_round
        case rel =>
          refine ⟨k + 1, by go_num, by omega, fun j hj hjk => ?_⟩
          by_cases hjk' : j < k
          · exact HA.out j hj hjk'
          · obtain rfl : j = k := by omega
            exact HO.out
        case measure => simp [intOf]; omega
      · have HF : Hid (isPathB s = false) := by
          show _ = _
          rw [HI.out, Bool.and_eq_false_iff]
          left
          rw [List.all_eq_false]
          exact ⟨ps[k], List.getElem_mem hlt, hok⟩
        by_cases h1 : madeB M.partP 1 8 ps[k] = true
        · by_cases h2 : (ps[k].toList == [46]) = true
          · clear hok
            go_wp2_with (go_at_call 101; refine (cM _).mono ?_; rintro e w' ⟨rfl, rfl⟩)
            go_ret
            exact ⟨ret_bool HF.out.symm, hB⟩
          · have h2' : (ps[k].toList == [46]) = false := by simpa using h2
            have h3 : (ps[k].toList == [46, 46]) = true := by
              rw [Lib.toList_data] at h2' ⊢
              unfold partOk at hok
              rw [show M.made M.partP 1 8 ps[k].data.toList = true from h1, h2'] at hok
              simpa using hok
            clear hok h2
            go_wp2_with (go_at_call 101; refine (cM _).mono ?_; rintro e w' ⟨rfl, rfl⟩)
            go_ret
            exact ⟨ret_bool HF.out.symm, hB⟩
        · have h1' : madeB M.partP 1 8 ps[k] = false := by simpa using h1
          clear hok h1
          go_wp2_with (go_at_call 101; refine (cM _).mono ?_; rintro e w' ⟨rfl, rfl⟩)
          go_ret
          exact ⟨ret_bool HF.out.symm, hB⟩
    · have hall : ps.all (fun p => partOk p.data.toList) = true := by
        rw [List.all_eq_true]
        intro p hp
        obtain ⟨j, hj, rfl⟩ := List.getElem_of_mem hp
        exact HA.out j hj (by omega)
      have HF : Hid (isPathB s = decide (ps.length ≤ 3)) := by show _ = _; rw [HI.out, hall]; rfl
      clear hall
      go_wp2
      go_ret
      exact ⟨ret_bool (by rw [HF.out, decide_eq_decide]; omega), hB⟩
end Go.Proofs.YtgnfknjopafngaaGreatDoor
