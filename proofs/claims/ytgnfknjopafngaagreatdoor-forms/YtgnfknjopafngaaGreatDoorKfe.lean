import Derived.Test.YtgnfknjopafngaaGreatDoorKfd
import Derived.RegionTactic
import Derived.BigRegion
namespace Go.Proofs.YtgnfknjopafngaaGreatDoor
open Go.RowKit
theorem infoStr : (Tryz.prog.info? 9).map (fun i => (i.zero, i.size, i.bytes)) = some (some (.string ⟨#[]⟩), 1, 16) := by kernel_rfl
def strV (l : List UInt8) : Value := .string ⟨l.toArray⟩
def cutB (s sep : ByteArray) : List (List UInt8) := M.cutS s.data.toList sep.data.toList
theorem strV_ext (s : ByteArray) (a b : Nat) : Value.string (s.extract a b) = strV ((s.data.toList.drop a).take (b - a)) := by unfold strV; rw [Lib.extract_eq]
def cutRel (s sep : ByteArray) (os : List (List UInt8)) (from' i : Nat) : Prop :=
  from' ≤ i ∧ i ≤ s.size ∧ os.length ≤ i ∧ cutB s sep = os ++ M.cutA sep.data.toList (s.size - i) ((s.data.toList.drop from').take (i - from')) (s.data.toList.drop i)
theorem cutRel_start (s sep : ByteArray) : cutRel s sep [] 0 0 := ⟨Nat.le_refl _, Nat.zero_le _, Nat.zero_le _, by unfold cutB M.cutS; simp⟩
theorem cutRel_hit {s sep : ByteArray} {os : List (List UInt8)} {f i : Nat} (h : cutRel s sep os f i) (hs : 0 < sep.size) (hi : i + sep.size ≤ s.size) (ht : ((s.extract i (i + sep.size)).toList == sep.toList) = true) :
    cutRel s sep (os ++ [(s.data.toList.drop f).take (i - f)]) (i + sep.size) (i + sep.size) := by
  obtain ⟨h1, h2, h3, h4⟩ := h
  have hs' : 0 < sep.data.toList.length := by simpa using hs
  rw [Lib.toList_data, Lib.toList_data, Lib.extract_data, beq_iff_eq] at ht
  have e : i + sep.size - i = sep.data.toList.length := by simp
  rw [e] at ht
  refine ⟨Nat.le_refl _, by omega, by simp; omega, ?_⟩
  rw [h4, M.cutA_hit hs' _ (s.size - (i + sep.size)) _ _ (by simp) (by simp only [List.length_drop, Array.length_toList, ByteArray.size_data]; omega) (by simp; omega) ht]
  simp [List.drop_drop]
theorem cutRel_miss {s sep : ByteArray} {os : List (List UInt8)} {f i : Nat} (h : cutRel s sep os f i) (hs : 0 < sep.size) (hi : i + sep.size ≤ s.size) (ht : ((s.extract i (i + sep.size)).toList == sep.toList) = false) :
    cutRel s sep os f (i + 1) := by
  obtain ⟨h1, h2, h3, h4⟩ := h
  have hs' : 0 < sep.data.toList.length := by simpa using hs
  rw [Lib.toList_data, Lib.toList_data, Lib.extract_data, beq_eq_false_iff_ne] at ht
  have e : i + sep.size - i = sep.data.toList.length := by simp
  rw [e] at ht
  refine ⟨by omega, by omega, by omega, ?_⟩
  rw [h4, M.cutA_miss hs' _ (s.size - (i + 1)) _ _ (by simp) (by simp only [List.length_drop, Array.length_toList, ByteArray.size_data]; omega) (by simp; omega) ht]
  have e2 : (s.data.toList.drop f).take (i + 1 - f) = (s.data.toList.drop f).take (i - f) ++ (s.data.toList.drop i).take 1 := by
    rw [show i + 1 - f = (i - f) + 1 by omega, List.take_add, List.drop_drop, show f + (i - f) = i by omega]
  rw [e2, List.drop_drop]
theorem cutRel_end {s sep : ByteArray} {os : List (List UInt8)} {f i : Nat} (h : cutRel s sep os f i) (hi : s.size < i + sep.size) :
    cutB s sep = os ++ [s.data.toList.drop f] := by
  obtain ⟨h1, h2, h3, h4⟩ := h
  rw [h4, M.cutA_stop _ _ _ (by simp; omega)]
  congr 2
  conv => rhs; rw [← List.take_append_drop (i - f) (s.data.toList.drop f)]
  rw [List.drop_drop, show f + (i - f) = i by omega]
set_option maxRecDepth 100000 in
set_option maxHeartbeats 1000000 in
theorem cut_any (s sep : ByteArray) (w : World) (hs : 0 < sep.size) (hl : s.size ≤ 1000000) (hl2 : sep.size ≤ 1000) :
    Calls Tryz.prog 36 #[.string s, .string sep] w fun e w' => ∃ v, e = .returned v ∧ w'.ownsRow w.heap.size 9 1 v (cutB s sep).length ((cutB s sep).map strV) ∧ Below w.heap.size w w' := by
  obtain ⟨i0, hi0, hz0, hz1, hz2⟩ := info_parts infoStr
  go_enter Tryz.func36, Tryz.ntmps36
  go_wp2
  go_loopw [5, 6, 7] (fun v f i wr => ∃ (os : List (List UInt8)) (fn k : Nat), f = .int .i64 fn ∧ i = .int .i64 k ∧ wr.ownsRow w.heap.size 9 1 v os.length (os.map strV) ∧ Below w.heap.size w wr ∧ fn ≤ k ∧ k ≤ s.size ∧ os.length ≤ k ∧ Hid (cutRel s sep os fn k)) (fun _ _ i _ => s.size - (intOf i).toNat)
  case atStart => exact ⟨[], 0, 0, rfl, rfl, World.ownsRow_nil _ _ _ _, Below.refl _ _, Nat.le_refl _, Nat.zero_le _, Nat.zero_le _, cutRel_start s sep⟩
  case round =>
    obtain ⟨os, fn, k, rfl, rfl, hown, hB, hfk, hks, hok, HR⟩ := hrel
    have hsz := hB.size
    by_cases hlt : k + sep.size ≤ s.size
    · by_cases hm : ((s.extract k (k + sep.size)).toList == sep.toList) = true
      · have HM : Hid (((s.extract k (k + sep.size)).toList == sep.toList) = true) := hm
        go_wp2_with (at_builtin; refine wpList_append_own _ rfl _ _ 43 rfl w.heap.size 9 i0 (.string ⟨#[]⟩) 1 16 Tryz.underlying43 hi0 hz0 hz1 hz2 rfl (by decide) _ _ _ rfl (hown.alloc _) ⟨wr.heap.size, 0, none⟩ 1 1 [.string (s.extract fn k)] rfl rfl ?c1 ?c2 ?c3 ?c4 ?c5 ?_)
        case c1 => exact one_new _ _ _
        case c2 => intro u hu; simp at hu; subst hu; rfl
        case c3 => unfold maxLen; omega
        case c4 => omega
        case c5 => simp; omega
        intro v' w1 hown' hgrow _
        have R1 : w1.ownsRow w.heap.size 9 1 v' (os ++ [(s.data.toList.drop fn).take (k - fn)]).length ((os ++ [(s.data.toList.drop fn).take (k - fn)]).map strV) := by
          rw [strV_ext] at hown'; simpa using hown'
        have R2 := below_push hB hsz hown hgrow
        clear hown' hgrow hown
        go_wp2
        go_roundw
        case rel => exact ⟨_, k + sep.size, k + sep.size, by go_num, by go_num, R1, R2, Nat.le_refl _, hlt, by simp; omega, cutRel_hit HR.out hs hlt HM.out⟩
        case measure => simp [intOf]; omega
      · have hm' : ((s.extract k (k + sep.size)).toList == sep.toList) = false := by simpa using hm
        have HM : Hid (((s.extract k (k + sep.size)).toList == sep.toList) = false) := hm'
        clear hm
        go_wp2
        go_roundw
        case rel => exact ⟨_, fn, k + 1, rfl, by go_num, hown, hB, by omega, by omega, by omega, cutRel_miss HR.out hs hlt HM.out⟩
        case measure => simp [intOf]; omega
    · go_wp2_with (at_builtin; refine wpList_append_own _ rfl _ _ 43 rfl w.heap.size 9 i0 (.string ⟨#[]⟩) 1 16 Tryz.underlying43 hi0 hz0 hz1 hz2 rfl (by decide) _ _ _ rfl (hown.alloc _) ⟨wr.heap.size, 0, none⟩ 1 1 [.string (s.extract fn s.size)] rfl rfl ?c1 ?c2 ?c3 ?c4 ?c5 ?_)
      case c1 => exact one_new _ _ _
      case c2 => intro u hu; simp at hu; subst hu; rfl
      case c3 => unfold maxLen; omega
      case c4 => omega
      case c5 => simp; omega
      intro v' w1 hown' hgrow _
      have HE : Hid (cutB s sep = os ++ [s.data.toList.drop fn]) := cutRel_end HR.out (by omega)
      have R1 : w1.ownsRow w.heap.size 9 1 v' (cutB s sep).length ((cutB s sep).map strV) := by
        rw [HE.out]
        rw [strV_ext, List.take_of_length_le (by simp)] at hown'
        simpa using hown'
      have R2 := below_push hB hsz hown hgrow
      clear hown' hgrow hown HE
      go_wp2
      go_ret
      exact ⟨_, rfl, R1, R2⟩
end Go.Proofs.YtgnfknjopafngaaGreatDoor
namespace Go.Proofs.YtgnfknjopafngaaGreatDoor
open Go.RowKit
theorem own_slice {w : World} {B e n : Nat} {v : Value} {xs : List Value} (h : w.ownsRow B e 1 v n xs) (hn : 0 < n) :
    ∃ g cap, v = .slice (some ⟨g, 0, none⟩) n cap ∧ B ≤ g ∧ g < w.heap.size ∧ n ≤ cap ∧ ∀ j (hj : j < xs.length), w.cell? ⟨g, j, none⟩ = some xs[j] := by
  obtain ⟨hl, ⟨_, hz⟩ | ⟨g, cap, cur, rfl, hB, hb, hc, _, hs, ht⟩⟩ := h
  · omega
  · refine ⟨g, cap, rfl, hB, ?_, hc, fun j hj => ?_⟩
    · have := Array.getElem?_eq_some_iff.mp hb; exact this.1
    · subst ht
      simp only [List.length_take, Array.length_toList] at hj
      simp only [World.cell?, hb]
      rw [Array.getElem?_eq_getElem (by omega)]
      simp
theorem cut_c (s sep : ByteArray) (w : World) (hs : 0 < sep.size) (hl : s.size ≤ 1000000) (hl2 : sep.size ≤ 1000) (ps : List ByteArray) (hps : cutB s sep = ps.map (fun p => p.data.toList)) :
    Calls Tryz.prog 36 #[.string s, .string sep] w fun e w' => ∃ g cap, e = .returned (.slice (some ⟨g, 0, none⟩) ps.length cap) ∧ w.heap.size ≤ g ∧ g < w'.heap.size ∧ ps.length ≤ cap ∧
      (∀ j (hj : j < ps.length), w'.cell? ⟨g, j, none⟩ = some (.string ps[j])) ∧ Below w.heap.size w w' := by
  refine (cut_any s sep w hs hl hl2).mono fun e w' ⟨v, he, ho, hb⟩ => ?_
  have h0 := (M.cutS_len s.data.toList sep.data.toList).1
  obtain ⟨g, cap, rfl, h1, h2, h3, h4⟩ := own_slice ho h0
  have hn : (cutB s sep).length = ps.length := by rw [hps]; simp
  rw [hn] at he h3
  refine ⟨g, cap, he, h1, h2, h3, fun j hj => ?_, hb⟩
  rw [h4 j (by simp [hn]; exact hj)]
  simp [hps, strV]
theorem bytes_list (l : List (List UInt8)) : ∃ ps : List ByteArray, l = ps.map (fun p => p.data.toList) :=
  ⟨l.map (fun x => ⟨x.toArray⟩), by
    induction l with
    | nil => rfl
    | cons a l ih => simp only [List.map_cons]; rw [← ih]⟩
theorem piece_size {s sep : ByteArray} {ps : List ByteArray} (hps : cutB s sep = ps.map (fun p => p.data.toList)) (p : ByteArray) (hp : p ∈ ps) : p.size ≤ s.size := by
  have := M.cutS_mem s.data.toList sep.data.toList p.data.toList (by show _ ∈ cutB s sep; rw [hps]; exact List.mem_map.mpr ⟨p, hp, rfl⟩)
  simpa using this
def choiceB (s : ByteArray) : Option M.Ch := M.choiceS s.data.toList
def chB (x : Option M.Ch) (a b c : List UInt8) : Prop := ∀ y, x = some y → y.name = a ∧ y.sign = b ∧ y.ver = c
theorem chB_none (a b c : List UInt8) : chB none a b c := fun y h => by cases h
theorem chB_some (a b c : List UInt8) : chB (some ⟨a, b, c⟩) a b c := fun y h => by cases h; exact ⟨rfl, rfl, rfl⟩
theorem isSome_ite {α : Type} (b : Bool) (x : α) : (if b = true then some x else none).isSome = b := by cases b <;> rfl
theorem strV_of (s : ByteArray) : Value.string s = strV s.data.toList := rfl
theorem choice_1 (s P : ByteArray) (h : cutB s ⟨#[32]⟩ = [P.data.toList]) : choiceB s = if isNameB P = true then some ⟨s.data.toList, [], []⟩ else none := by
  unfold choiceB M.choiceS
  rw [show M.cutS s.data.toList [32] = cutB s ⟨#[32]⟩ from rfl, h]
  rfl
theorem choice_3 (s P0 P1 P2 : ByteArray) (h : cutB s ⟨#[32]⟩ = [P0.data.toList, P1.data.toList, P2.data.toList]) :
    choiceB s = if isNameB P0 = true ∧ 0 < P2.size ∧ isVerB (P2.extract 0 (P2.size - 1)) = true ∧ M.isSignP P1.data.toList = true ∧ ((P2.extract (P2.size - 1) P2.size).toList == [41]) = true then some ⟨P0.data.toList, P1.data.toList.drop 1, (P2.extract 0 (P2.size - 1)).data.toList⟩ else none := by
  unfold choiceB M.choiceS
  rw [show M.cutS s.data.toList [32] = cutB s ⟨#[32]⟩ from rfl, h, Lib.toList_data, ext_from, ext_upto]
  unfold isNameB isVerB
  rw [ext_upto]
  simp only [Array.length_toList, ByteArray.size_data]
theorem choice_no (s : ByteArray) (h1 : (cutB s ⟨#[32]⟩).length ≠ 1) (h3 : (cutB s ⟨#[32]⟩).length ≠ 3) : choiceB s = none := by
  unfold choiceB M.choiceS
  rw [show M.cutS s.data.toList [32] = cutB s ⟨#[32]⟩ from rfl]
  split
  · rename_i e; rw [e] at h1; simp at h1
  · rename_i e; rw [e] at h3; simp at h3
  · rfl
set_option maxRecDepth 100000 in
set_option maxHeartbeats 1000000 in
theorem choice_one (s P : ByteArray) (w : World) (hl : s.size ≤ 100000) (h : cutB s ⟨#[32]⟩ = [P.data.toList]) :
    Calls Tryz.prog 103 #[.string s] w fun e w' => ∃ a b c, e = .returned (.tuple #[.agg #[strV a, strV b, strV c], .bool (choiceB s).isSome]) ∧ chB (choiceB s) a b c ∧ Below w.heap.size w w' := by
  have hPl : P.size ≤ s.size := piece_size (ps := [P]) h P (by simp)
  have cC := fun wx => cut_c s ⟨#[32]⟩ wx (by decide) (by omega) (by decide) [P] h
  have HC : Hid (choiceB s = if isNameB P = true then some ⟨s.data.toList, [], []⟩ else none) := choice_1 s P h
  clear h
  go_enter Tryz.func103, Tryz.ntmps103
  go_wp2_with fail
  refine (cC _).mono ?_
  rintro e w1 ⟨g, cap, rfl, hg1, hg2, hcap, hc, hB⟩
  have c0 : w1.cell? ⟨g, 0, none⟩ = some (.string P) := hc 0 (by simp)
  clear hc cC
  obtain ⟨hcl, hfz⟩ := bcell hB
  have hz : w.heap.size < w1.heap.size := by have := hB.size; simp at this; omega
  simp only [List.length_cons, List.length_nil, Nat.zero_add] at hcap ⊢
  go_wp2_with (go_at_call 59; refine (isName_any _ _ (by omega)).mono ?_; rintro e w' ⟨rfl, rfl⟩)
  refine bodyPost_ret (v := .tuple #[.agg #[.string s, .string ⟨#[]⟩, .string ⟨#[]⟩], .bool (isNameB P)]) (by simp [results, Tryz.results103, go_sem, hcl]) rfl ⟨s.data.toList, [], [], ?_, ?_, ?_⟩
  · rw [HC.out, isSome_ite]; rfl
  · rw [HC.out]; split
    · exact chB_some _ _ _
    · exact chB_none _ _ _
  · exact (((bt ((Below.refl _ w).alloc (Nat.le_refl _) _) hB).setCell (Nat.le_refl _) _).setCell (Nat.le_refl _) _).setCell (Nat.le_refl _) _
set_option maxRecDepth 100000 in
set_option maxHeartbeats 1000000 in
theorem choice_many (s P : ByteArray) (ps : List ByteArray) (w : World) (hl : s.size ≤ 100000) (h : cutB s ⟨#[32]⟩ = (P :: ps).map (fun p => p.data.toList)) (h1 : ps.length ≠ 0) (h3 : ps.length ≠ 2) :
    Calls Tryz.prog 103 #[.string s] w fun e w' => ∃ a b c, e = .returned (.tuple #[.agg #[strV a, strV b, strV c], .bool (choiceB s).isSome]) ∧ chB (choiceB s) a b c ∧ Below w.heap.size w w' := by
  have hPl : P.size ≤ s.size := piece_size h P (by simp)
  have cC := fun wx => cut_c s ⟨#[32]⟩ wx (by decide) (by omega) (by decide) (P :: ps) h
  have HC : Hid (choiceB s = none) := choice_no s (by rw [h]; simp; exact fun e => h1 (by simp [e])) (by rw [h]; simp; omega)
  have hlen := (M.cutS_len s.data.toList [32]).2
  have hn : (P :: ps).length ≤ 100001 := by
    have e : (cutB s ⟨#[32]⟩).length = (P :: ps).length := by rw [h]; simp
    have : (cutB s ⟨#[32]⟩).length ≤ s.data.toList.length + 1 := hlen
    simp only [Array.length_toList, ByteArray.size_data] at this
    omega
  clear h hlen
  obtain ⟨n, hnn⟩ : ∃ n, n = (P :: ps).length := ⟨_, rfl⟩
  have g1 : n ≠ 1 := by rw [hnn]; simp; exact fun e => h1 (by simp [e])
  have g3 : n ≠ 3 := by rw [hnn]; simp; omega
  have g0 : 0 < n := by rw [hnn]; simp
  have t1 : ((n : Int) == 1) = false := by rw [beq_eq_false_iff_ne]; omega
  have t3 : ((n : Int) != 3) = true := by rw [bne_iff_ne]; omega
  have HN : Hid (n = (P :: ps).length) := hnn
  rw [← hnn] at hn
  clear hnn
  go_enter Tryz.func103, Tryz.ntmps103
  go_wp2_with fail
  refine (cC _).mono ?_
  rintro e w1 ⟨g, cap, rfl, hg1, hg2, hcap, hc, hB⟩
  have c0 : w1.cell? ⟨g, 0, none⟩ = some (.string P) := hc 0 (by simp)
  clear hc cC
  rw [← HN.out] at hcap ⊢
  obtain ⟨hcl, hfz⟩ := bcell hB
  have hz : w.heap.size < w1.heap.size := by have := hB.size; simp at this; omega
  go_wp2_with (go_at_call 59; refine (isName_any _ _ (by omega)).mono ?_; rintro e w' ⟨rfl, rfl⟩)
  refine bodyPost_ret (v := .tuple #[.agg #[.string ⟨#[]⟩, .string ⟨#[]⟩, .string ⟨#[]⟩], .bool false]) (by simp [results, Tryz.results103, go_sem, hcl]) rfl ⟨[], [], [], ?_, ?_, ?_⟩
  · rw [HC.out]; rfl
  · rw [HC.out]; exact chB_none _ _ _
  · exact (((bt ((Below.refl _ w).alloc (Nat.le_refl _) _) hB).setCell (Nat.le_refl _) _).setCell (Nat.le_refl _) _).setCell (Nat.le_refl _) _
theorem sign5 {p : ByteArray} (h : M.isSignP p.data.toList = true) :
    ((p.toList == [40, 60, 60]) = true) ∨
    ((p.toList == [40, 60, 60]) = false ∧ (p.toList == [40, 60, 61]) = true) ∨
    ((p.toList == [40, 60, 60]) = false ∧ (p.toList == [40, 60, 61]) = false ∧ (p.toList == [40, 61]) = true) ∨
    ((p.toList == [40, 60, 60]) = false ∧ (p.toList == [40, 60, 61]) = false ∧ (p.toList == [40, 61]) = false ∧ (p.toList == [40, 62, 61]) = true) ∨
    ((p.toList == [40, 60, 60]) = false ∧ (p.toList == [40, 60, 61]) = false ∧ (p.toList == [40, 61]) = false ∧ (p.toList == [40, 62, 61]) = false ∧ (p.toList == [40, 62, 62]) = true) := by
  rw [← Lib.toList_data] at h
  unfold M.isSignP at h
  generalize (p.toList == [40, 60, 60]) = a at *
  generalize (p.toList == [40, 60, 61]) = b at *
  generalize (p.toList == [40, 61]) = c at *
  generalize (p.toList == [40, 62, 61]) = d at *
  generalize (p.toList == [40, 62, 62]) = e at *
  revert h
  cases a <;> cases b <;> cases c <;> cases d <;> cases e <;> decide
theorem sign0 {p : ByteArray} (h : ¬ M.isSignP p.data.toList = true) :
    (p.toList == [40, 60, 60]) = false ∧ (p.toList == [40, 60, 61]) = false ∧ (p.toList == [40, 61]) = false ∧ (p.toList == [40, 62, 61]) = false ∧ (p.toList == [40, 62, 62]) = false := by
  rw [← Lib.toList_data] at h
  unfold M.isSignP at h
  generalize (p.toList == [40, 60, 60]) = a at *
  generalize (p.toList == [40, 60, 61]) = b at *
  generalize (p.toList == [40, 61]) = c at *
  generalize (p.toList == [40, 62, 61]) = d at *
  generalize (p.toList == [40, 62, 62]) = e at *
  revert h
  cases a <;> cases b <;> cases c <;> cases d <;> cases e <;> decide
theorem sign_len {p : ByteArray} (h : M.isSignP p.data.toList = true) : 1 ≤ p.size := by
  by_cases e : p.size = 0
  · have : p.data.toList = [] := List.length_eq_zero_iff.mp (by simpa using e)
    rw [this] at h; exact absurd h (by decide)
  · omega
set_option maxRecDepth 100000 in
set_option maxHeartbeats 2000000 in
theorem choice_three (s P0 P1 P2 : ByteArray) (w : World) (hl : s.size ≤ 100000) (h : cutB s ⟨#[32]⟩ = [P0.data.toList, P1.data.toList, P2.data.toList]) :
    Calls Tryz.prog 103 #[.string s] w fun e w' => ∃ a b c, e = .returned (.tuple #[.agg #[strV a, strV b, strV c], .bool (choiceB s).isSome]) ∧ chB (choiceB s) a b c ∧ Below w.heap.size w w' := by
  have hP0 : P0.size ≤ s.size := piece_size (ps := [P0, P1, P2]) h P0 (by simp)
  have hP1 : P1.size ≤ s.size := piece_size (ps := [P0, P1, P2]) h P1 (by simp)
  have hP2 : P2.size ≤ s.size := piece_size (ps := [P0, P1, P2]) h P2 (by simp)
  have cC := fun wx => cut_c s ⟨#[32]⟩ wx (by decide) (by omega) (by decide) [P0, P1, P2] h
  have HC := choice_3 s P0 P1 P2 h
  replace HC : Hid _ := HC
  clear h
  by_cases hn : isNameB P0 = true
  · by_cases h2 : P2.size = 0
    · have HE : Hid (choiceB s = none) := by show _ = _; rw [HC.out, if_neg (fun h => by have := h.2.1; omega)]
      have h2' : ((P2.size : Int) == 0) = true := by rw [h2]; rfl
      clear h2 HC
      go_enter Tryz.func103, Tryz.ntmps103
      go_wp2_with fail
      refine (cC _).mono ?_
      rintro e w1 ⟨g, cap, rfl, hg1, hg2, hcap, hc, hB⟩
      have c0 : w1.cell? ⟨g, 0, none⟩ = some (.string P0) := hc 0 (by simp)
      have c2 : w1.cell? ⟨g, 2, none⟩ = some (.string P2) := hc 2 (by simp)
      clear hc cC
      obtain ⟨hcl, hfz⟩ := bcell hB
      have hz : w.heap.size < w1.heap.size := by have := hB.size; simp at this; omega
      simp only [List.length_cons, List.length_nil, Nat.zero_add] at hcap ⊢
      go_wp2_with (go_at_call 59; refine (isName_any _ _ (by omega)).mono ?_; rintro e w' ⟨rfl, rfl⟩)
      refine bodyPost_ret (v := .tuple #[.agg #[.string ⟨#[]⟩, .string ⟨#[]⟩, .string ⟨#[]⟩], .bool false]) (by simp [results, Tryz.results103, go_sem, hcl]) rfl ⟨[], [], [], ?_, ?_, ?_⟩
      · rw [HE.out]; rfl
      · rw [HE.out]; exact chB_none _ _ _
      · exact (((bt ((Below.refl _ w).alloc (Nat.le_refl _) _) hB).setCell (Nat.le_refl _) _).setCell (Nat.le_refl _) _).setCell (Nat.le_refl _) _
    · have h2' : ((P2.size : Int) == 0) = false := by rw [beq_eq_false_iff_ne]; omega
      have h2p : 0 < P2.size := by omega
      clear h2
      by_cases hsg : M.isSignP P1.data.toList = true
      · have hp1 : 1 ≤ P1.size := sign_len hsg
        by_cases hv : isVerB (P2.extract 0 (P2.size - 1)) = true
        · by_cases hla : ((P2.extract (P2.size - 1) P2.size).toList == [41]) = true
          · have HE : Hid (choiceB s = some ⟨P0.data.toList, P1.data.toList.drop 1, (P2.extract 0 (P2.size - 1)).data.toList⟩) := by
              show _ = _; rw [HC.out, if_pos ⟨hn, h2p, hv, hsg, hla⟩]
            clear HC
            rcases sign5 hsg with k1 | ⟨k1, k2⟩ | ⟨k1, k2, k3⟩ | ⟨k1, k2, k3, k4⟩ | ⟨k1, k2, k3, k4, k5⟩
            all_goals
              clear hsg
              go_enter Tryz.func103, Tryz.ntmps103
              go_wp2_with fail
              refine (cC _).mono ?_
              rintro e w1 ⟨g, cap, rfl, hg1, hg2, hcap, hc, hB⟩
              have c0 : w1.cell? ⟨g, 0, none⟩ = some (.string P0) := hc 0 (by simp)
              have c1 : w1.cell? ⟨g, 1, none⟩ = some (.string P1) := hc 1 (by simp)
              have c2 : w1.cell? ⟨g, 2, none⟩ = some (.string P2) := hc 2 (by simp)
              clear hc cC
              obtain ⟨hcl, hfz⟩ := bcell hB
              have hz : w.heap.size < w1.heap.size := by have := hB.size; simp at this; omega
              simp only [List.length_cons, List.length_nil, Nat.zero_add] at hcap ⊢
              go_wp2_with (first | (go_at_call 59; refine (isName_any _ _ (by omega)).mono ?_; rintro e w' ⟨rfl, rfl⟩) | (go_at_call 60; refine (isVersion_any _ _ (by simp; omega)).mono ?_; rintro e w' ⟨rfl, rfl⟩))
              go_region
              all_goals
                go_wp2
                refine bodyPost_ret (v := .tuple #[.agg #[.string P0, .string (P1.extract 1 P1.size), .string (P2.extract 0 (P2.size - 1))], .bool true]) (by simp [results, Tryz.results103, go_sem, hcl]) rfl ⟨P0.data.toList, P1.data.toList.drop 1, (P2.extract 0 (P2.size - 1)).data.toList, ?_, ?_, ?_⟩
                · rw [HE.out, strV_of, strV_of, strV_of, ext_from]; rfl
                · rw [HE.out]; exact chB_some _ _ _
                · exact ((((bt ((Below.refl _ w).alloc (Nat.le_refl _) _) hB).setCell (Nat.le_refl _) _).setCell (Nat.le_refl _) _).setCell (Nat.le_refl _) _).drew
          · have HE : Hid (choiceB s = none) := by show _ = _; rw [HC.out, if_neg (fun h => hla h.2.2.2.2)]
            have hla' : ((P2.extract (P2.size - 1) P2.size).toList == [41]) = false := by simpa using hla
            clear HC hla
            rcases sign5 hsg with k1 | ⟨k1, k2⟩ | ⟨k1, k2, k3⟩ | ⟨k1, k2, k3, k4⟩ | ⟨k1, k2, k3, k4, k5⟩
            all_goals
              clear hsg
              go_enter Tryz.func103, Tryz.ntmps103
              go_wp2_with fail
              refine (cC _).mono ?_
              rintro e w1 ⟨g, cap, rfl, hg1, hg2, hcap, hc, hB⟩
              have c0 : w1.cell? ⟨g, 0, none⟩ = some (.string P0) := hc 0 (by simp)
              have c1 : w1.cell? ⟨g, 1, none⟩ = some (.string P1) := hc 1 (by simp)
              have c2 : w1.cell? ⟨g, 2, none⟩ = some (.string P2) := hc 2 (by simp)
              clear hc cC
              obtain ⟨hcl, hfz⟩ := bcell hB
              have hz : w.heap.size < w1.heap.size := by have := hB.size; simp at this; omega
              simp only [List.length_cons, List.length_nil, Nat.zero_add] at hcap ⊢
              go_wp2_with (first | (go_at_call 59; refine (isName_any _ _ (by omega)).mono ?_; rintro e w' ⟨rfl, rfl⟩) | (go_at_call 60; refine (isVersion_any _ _ (by simp; omega)).mono ?_; rintro e w' ⟨rfl, rfl⟩))
              refine bodyPost_ret (v := .tuple #[.agg #[.string ⟨#[]⟩, .string ⟨#[]⟩, .string ⟨#[]⟩], .bool false]) (by simp [results, Tryz.results103, go_sem, hcl]) rfl ⟨[], [], [], ?_, ?_, ?_⟩
              · rw [HE.out]; rfl
              · rw [HE.out]; exact chB_none _ _ _
              · exact (((bt ((Below.refl _ w).alloc (Nat.le_refl _) _) hB).setCell (Nat.le_refl _) _).setCell (Nat.le_refl _) _).setCell (Nat.le_refl _) _
        · have HE : Hid (choiceB s = none) := by show _ = _; rw [HC.out, if_neg (fun h => hv h.2.2.1)]
          have hv' : isVerB (P2.extract 0 (P2.size - 1)) = false := by simpa using hv
          clear HC hv
          rcases sign5 hsg with k1 | ⟨k1, k2⟩ | ⟨k1, k2, k3⟩ | ⟨k1, k2, k3, k4⟩ | ⟨k1, k2, k3, k4, k5⟩
          all_goals
            clear hsg
            go_enter Tryz.func103, Tryz.ntmps103
            go_wp2_with fail
            refine (cC _).mono ?_
            rintro e w1 ⟨g, cap, rfl, hg1, hg2, hcap, hc, hB⟩
            have c0 : w1.cell? ⟨g, 0, none⟩ = some (.string P0) := hc 0 (by simp)
            have c1 : w1.cell? ⟨g, 1, none⟩ = some (.string P1) := hc 1 (by simp)
            have c2 : w1.cell? ⟨g, 2, none⟩ = some (.string P2) := hc 2 (by simp)
            clear hc cC
            obtain ⟨hcl, hfz⟩ := bcell hB
            have hz : w.heap.size < w1.heap.size := by have := hB.size; simp at this; omega
            simp only [List.length_cons, List.length_nil, Nat.zero_add] at hcap ⊢
            go_wp2_with (first | (go_at_call 59; refine (isName_any _ _ (by omega)).mono ?_; rintro e w' ⟨rfl, rfl⟩) | (go_at_call 60; refine (isVersion_any _ _ (by simp; omega)).mono ?_; rintro e w' ⟨rfl, rfl⟩))
            refine bodyPost_ret (v := .tuple #[.agg #[.string ⟨#[]⟩, .string ⟨#[]⟩, .string ⟨#[]⟩], .bool false]) (by simp [results, Tryz.results103, go_sem, hcl]) rfl ⟨[], [], [], ?_, ?_, ?_⟩
            · rw [HE.out]; rfl
            · rw [HE.out]; exact chB_none _ _ _
            · exact (((bt ((Below.refl _ w).alloc (Nat.le_refl _) _) hB).setCell (Nat.le_refl _) _).setCell (Nat.le_refl _) _).setCell (Nat.le_refl _) _
      · have HE : Hid (choiceB s = none) := by show _ = _; rw [HC.out, if_neg (fun h => hsg h.2.2.2.1)]
        obtain ⟨k1, k2, k3, k4, k5⟩ := sign0 hsg
        clear HC hsg
        by_cases hv : isVerB (P2.extract 0 (P2.size - 1)) = true
        all_goals
            first | (have hv' : isVerB (P2.extract 0 (P2.size - 1)) = false := by simpa using hv) | skip
            go_enter Tryz.func103, Tryz.ntmps103
            go_wp2_with fail
            refine (cC _).mono ?_
            rintro e w1 ⟨g, cap, rfl, hg1, hg2, hcap, hc, hB⟩
            have c0 : w1.cell? ⟨g, 0, none⟩ = some (.string P0) := hc 0 (by simp)
            have c1 : w1.cell? ⟨g, 1, none⟩ = some (.string P1) := hc 1 (by simp)
            have c2 : w1.cell? ⟨g, 2, none⟩ = some (.string P2) := hc 2 (by simp)
            clear hc cC
            obtain ⟨hcl, hfz⟩ := bcell hB
            have hz : w.heap.size < w1.heap.size := by have := hB.size; simp at this; omega
            simp only [List.length_cons, List.length_nil, Nat.zero_add] at hcap ⊢
            go_wp2_with (first | (go_at_call 59; refine (isName_any _ _ (by omega)).mono ?_; rintro e w' ⟨rfl, rfl⟩) | (go_at_call 60; refine (isVersion_any _ _ (by simp; omega)).mono ?_; rintro e w' ⟨rfl, rfl⟩))
            refine bodyPost_ret (v := .tuple #[.agg #[.string ⟨#[]⟩, .string ⟨#[]⟩, .string ⟨#[]⟩], .bool false]) (by simp [results, Tryz.results103, go_sem, hcl]) rfl ⟨[], [], [], ?_, ?_, ?_⟩
            · rw [HE.out]; rfl
            · rw [HE.out]; exact chB_none _ _ _
            · exact (((bt ((Below.refl _ w).alloc (Nat.le_refl _) _) hB).setCell (Nat.le_refl _) _).setCell (Nat.le_refl _) _).setCell (Nat.le_refl _) _
  · have hn' : isNameB P0 = false := by simpa using hn
    have HE : Hid (choiceB s = none) := by show _ = _; rw [HC.out, if_neg (fun h => hn h.1)]
    clear hn HC
    go_enter Tryz.func103, Tryz.ntmps103
    go_wp2_with fail
    refine (cC _).mono ?_
    rintro e w1 ⟨g, cap, rfl, hg1, hg2, hcap, hc, hB⟩
    have c0 : w1.cell? ⟨g, 0, none⟩ = some (.string P0) := hc 0 (by simp)
    clear hc cC
    obtain ⟨hcl, hfz⟩ := bcell hB
    have hz : w.heap.size < w1.heap.size := by have := hB.size; simp at this; omega
    simp only [List.length_cons, List.length_nil, Nat.zero_add] at hcap ⊢
    go_wp2_with (go_at_call 59; refine (isName_any _ _ (by omega)).mono ?_; rintro e w' ⟨rfl, rfl⟩)
    refine bodyPost_ret (v := .tuple #[.agg #[.string ⟨#[]⟩, .string ⟨#[]⟩, .string ⟨#[]⟩], .bool false]) (by simp [results, Tryz.results103, go_sem, hcl]) rfl ⟨[], [], [], ?_, ?_, ?_⟩
    · rw [HE.out]; rfl
    · rw [HE.out]; exact chB_none _ _ _
    · exact (((bt ((Below.refl _ w).alloc (Nat.le_refl _) _) hB).setCell (Nat.le_refl _) _).setCell (Nat.le_refl _) _).setCell (Nat.le_refl _) _
theorem choice_any (s : ByteArray) (w : World) (hl : s.size ≤ 100000) :
    Calls Tryz.prog 103 #[.string s] w fun e w' => ∃ a b c, e = .returned (.tuple #[.agg #[strV a, strV b, strV c], .bool (choiceB s).isSome]) ∧ chB (choiceB s) a b c ∧ Below w.heap.size w w' := by
  obtain ⟨ps, hps⟩ := bytes_list (cutB s ⟨#[32]⟩)
  have h0 : 0 < (cutB s ⟨#[32]⟩).length := (M.cutS_len s.data.toList [32]).1
  match ps, hps with
  | [], hps => rw [hps] at h0; simp at h0
  | [P], hps => exact choice_one s P w hl hps
  | [P0, P1, P2], hps => exact choice_three s P0 P1 P2 w hl hps
  | [P, Q], hps => exact choice_many s P [Q] w hl hps (by simp) (by simp)
  | P :: Q :: R :: T :: ps, hps => exact choice_many s P (Q :: R :: T :: ps) w hl hps (by simp) (by simp)
end Go.Proofs.YtgnfknjopafngaaGreatDoor
