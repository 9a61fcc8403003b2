import Derived.Test.YtgnfknjopafngaaGreatDoorFmL
import Derived.Test.YtgnfknjopafngaaGreatDoorFmE
/-
  THE CODE, WALKED: readFile.
-/
namespace Go.Proofs.YtgnfknjopafngaaGreatDoor
open Go.RowKit

def flV (f : M.Fl) : Value := .agg #[.string ⟨f.path.toArray⟩, .string ⟨f.content.toArray⟩]
/-- Two cells of a block that are stored. -/
theorem set2 (X : World) (b : Nat) (a0 a1 u0 u1 : Value) (h0 : X.cell? ⟨b, 0, none⟩ = some u0) (h1 : X.cell? ⟨b, 1, none⟩ = some u1) :
    ((X.setCell ⟨b, 0, none⟩ a0).setCell ⟨b, 1, none⟩ a1).cell? ⟨b, 0, none⟩ = some a0 ∧ ((X.setCell ⟨b, 0, none⟩ a0).setCell ⟨b, 1, none⟩ a1).cell? ⟨b, 1, none⟩ = some a1 := by
  refine ⟨?_, ?_⟩
  · rw [setC_off _ _ _ _ _ (by decide), World.cell?_setCell_same _ _ _ h0]
  · rw [World.cell?_setCell_same _ _ _ (by rw [setC_off _ _ _ _ _ (by decide)]; exact h1)]

set_option maxRecDepth 100000 in
set_option maxHeartbeats 2000000 in
theorem readFile_walk (s A B : ByteArray) (ok : Bool) (L : Option (List (List UInt8))) (O : Option M.Fl) (w : World) (hw : Hid (MaxIs w)) (hB : B.size ≤ 1000000) (HO : Hid (O = if ok = true ∧ B.size ≤ 24 ∧ L.isSome = true then some (⟨A.data.toList, B.data.toList⟩ : M.Fl) else none))
    (c1 : ∀ wx, MaxIs wx → Calls Tryz.prog 169 #[.string s, .string ⟨#[61]⟩] wx fun e w' => e = .returned (.tuple #[.string A, .string B, .bool ok]) ∧ ∃ n, w' = wx.drewN n)
    (c2 : ∀ wx, MaxIs wx → Calls Tryz.prog 176 #[.string A, .string ⟨#[47]⟩, .int .i64 3, .func (.func 177) #[] #[]] wx (RowPost L 9 1 (List.map strV) wx)) :
    Calls Tryz.prog 138 #[.string s] w fun e w' => GivesO O flV e ∧ Below w.heap.size w w' := by
  have hwA : ∀ o, MaxIs (w.alloc o) := fun o => hw.out.below ((Below.refl _ w).alloc (Nat.le_refl _) _)
  have cY := must_ok
  have cN := must_no
  go_enter Tryz.func138, Tryz.ntmps138
  go_wp2_with fail
  refine (c1 _ (hwA _)).mono ?_
  rintro e w' ⟨rfl, n, rfl⟩
  obtain ⟨hB1, hz, hcl, hfz⟩ := newB w [.string ⟨#[]⟩, .string ⟨#[]⟩] 159 n
  generalize hW : (w.alloc (.cells [Value.string ⟨#[]⟩, .string ⟨#[]⟩].toArray 159)).drewN n = W1 at hB1 hz hcl hfz
  have q0 := hcl 0 _ rfl
  have q1 := hcl 1 _ rfl
  have HB1 : Hid (Below w.heap.size w W1) := hB1
  have hm1 : Hid (MaxIs W1) := hw.out.below hB1
  change _ = _ at hW
  simp only [List.toArray] at hW
  cases ok
  · clear c2 cY
    go_wp2_with ((go_at_call 83; refine (cN _).mono ?_; rintro e w' ⟨rfl, rfl⟩))
    exact ⟨rfl, givesO_f (HO.out.trans (if_neg (by simp))) rfl, HB1.out⟩
  by_cases h24 : B.size ≤ 24
  · have h24' : (B.size : Int) ≤ 24 := by omega
    clear cN
    have c3 := c2 _ hm1.out
    clear c2
    cases L with
    | none =>
      replace c3 : Calls Tryz.prog 176 #[.string A, .string ⟨#[47]⟩, .int .i64 3, .func (.func 177) #[] #[]] W1 fun e w' => Thrown e ∧ Below W1.heap.size W1 w' := c3.mono fun e w' h => ⟨h.2, h.1⟩
      go_wp2_with (first | (go_at_call 83; refine (cY _).mono ?_; rintro e w' ⟨rfl, rfl⟩) | (go_at_call 176; refine c3.mono ?_; rintro e w5 ⟨rfl, hB5⟩))
      exact ⟨rfl, givesO_f (HO.out.trans (if_neg (by simp))) rfl, bt HB1.out hB5⟩
    | some l =>
      replace c3 : Calls Tryz.prog 176 #[.string A, .string ⟨#[47]⟩, .int .i64 3, .func (.func 177) #[] #[]] W1 fun e w' => (∃ v, e = .returned v) ∧ Below W1.heap.size W1 w' := c3.mono fun e w' h => by
        obtain ⟨h1, v, h2, _⟩ := h
        exact ⟨⟨v, h2⟩, h1⟩
      go_wp2_with (first | (go_at_call 83; refine (cY _).mono ?_; rintro e w' ⟨rfl, rfl⟩) | fail)
      refine c3.mono ?_
      rintro e w5 ⟨⟨v, rfl⟩, hB5⟩
      have p0 := (hB5.cell (p := ⟨w.heap.size, 0, none⟩) (by show w.heap.size < _; omega)).trans q0
      have p1 := (hB5.cell (p := ⟨w.heap.size, 1, none⟩) (by show w.heap.size < _; omega)).trans q1
      have pf : ∀ o, w5.frozen? ⟨w.heap.size, o, none⟩ = false := fun o => (hB5.frozen (p := ⟨w.heap.size, o, none⟩) (by show w.heap.size < _; omega)).trans (hfz o)
      have HB5 : Hid (Below w.heap.size w w5) := bt HB1.out hB5
      go_wp2
      obtain ⟨k0, k1⟩ := set2 w5 w.heap.size (.string A) (.string B) _ _ p0 p1
      refine bodyPost_ret (v := .agg #[.string A, .string B]) (by simp [results, Tryz.results138, go_sem, k0, k1]) rfl ⟨givesO_t _ (HO.out.trans (if_pos (by simpa using h24))) rfl, ?_⟩
      exact (HB5.out.setCell (Nat.le_refl _) _).setCell (Nat.le_refl _) _
  · have h24' : ¬ (B.size : Int) ≤ 24 := by omega
    have hd : decide ((B.size : Int) ≤ 24) = false := by simp; omega
    clear c2 cY
    go_wp2_with ((go_at_call 83; refine (cN _).mono ?_; rintro e w' ⟨rfl, rfl⟩))
    exact ⟨rfl, givesO_f (HO.out.trans (if_neg (fun h => h24 h.2.1))) rfl, HB1.out⟩

theorem readFile_any (s : ByteArray) (w : World) (hw : MaxIs w) (hs : s.size ≤ 100000) :
    Calls Tryz.prog 138 #[.string s] w fun e w' => GivesO (fileC s.data.toList) flV e ∧ Below w.heap.size w w' := by
  obtain ⟨A, hA⟩ := bytes_ex (Lib.cut s.data.toList [61]).1
  obtain ⟨B, hB⟩ := bytes_ex (Lib.cut s.data.toList [61]).2.1
  have h := len_data s
  have sA : A.size ≤ s.size := by have := (cut_len s.data.toList 61).1; rw [size_of hA]; omega
  have sB : B.size ≤ s.size := by have := (cut_len s.data.toList 61).2; rw [size_of hB]; omega
  refine readFile_walk s A B (Lib.cut s.data.toList [61]).2.2 (listC partC 3 A.data.toList [47]) (fileC s.data.toList) w hw (by omega) ?_
    (fun wx hx => cut_lib s A B 61 _ wx hx (by omega) (by rw [hA, hB])) (fun wx hx => listPart_any A ⟨#[47]⟩ 3 wx hx (by omega) (by decide))
  show _ = _
  unfold fileC
  rw [← hA, ← hB, len_data]
  have e : (listC partC 3 A.data.toList [47]).isSome = decide ((M.cutS A.data.toList [47]).length ≤ 3 ∧ (M.cutS A.data.toList [47]).all isPartS = true) := by
    unfold listC
    rw [parts_all]
    by_cases h1 : (M.cutS A.data.toList [47]).length ≤ 3 <;> by_cases h2 : (M.cutS A.data.toList [47]).all isPartS = true <;> simp [h1, h2]
  simp only [e, decide_eq_true_eq]
end Go.Proofs.YtgnfknjopafngaaGreatDoor
/-
  THE CODE, WALKED: Folders; clash.
-/
namespace Go.Proofs.YtgnfknjopafngaaGreatDoor
open Go.RowKit

def foldU (b : List UInt8) (k : Nat) : List (List UInt8) := (List.range k).flatMap fun i => if Lib.hasPrefix (b.drop i) [47] = true then [b.take i] else []
theorem foldU_all (b : List UInt8) : foldersS b = foldU b b.length := rfl
theorem foldU_yes {b : List UInt8} {k : Nat} (h : Lib.hasPrefix (b.drop k) [47] = true) : foldU b (k + 1) = foldU b k ++ [b.take k] := by
  unfold foldU; rw [List.range_succ, List.flatMap_append]; simp [h]
theorem foldU_no {b : List UInt8} {k : Nat} (h : Lib.hasPrefix (b.drop k) [47] = false) : foldU b (k + 1) = foldU b k := by
  unfold foldU; rw [List.range_succ, List.flatMap_append]; simp [h]
theorem foldU_len (b : List UInt8) : ∀ k, (foldU b k).length ≤ k
  | 0 => by simp [foldU]
  | k + 1 => by
    have := foldU_len b k
    cases h : Lib.hasPrefix (b.drop k) [47] with
    | true => rw [foldU_yes h]; simp; omega
    | false => rw [foldU_no h]; omega

set_option maxRecDepth 100000 in
set_option maxHeartbeats 2000000 in
theorem folders_any (s : ByteArray) (w : World) (hs : s.size ≤ 100000) :
    Calls Tryz.prog 219 #[.string s] w fun e w' => ∃ v, e = .returned v ∧ w'.ownsRow w.heap.size 9 1 v (foldersS s.data.toList).length ((foldersS s.data.toList).map strV) ∧ Below w.heap.size w w' := by
  obtain ⟨i0, hi0, hz0, hz1, hz2⟩ := info_parts infoStr
  go_enter Tryz.func219, Tryz.ntmps219
  go_wp2
  go_loopw [3, 4, 7] (fun v _ j wr => ∃ (l : List (List UInt8)) (k : Nat), j = .int .i64 k ∧ k ≤ s.size ∧ l.length ≤ k ∧ wr.ownsRow w.heap.size 9 1 v l.length (l.map strV) ∧ Below w.heap.size w wr ∧ Hid (l = foldU s.data.toList k)) (fun _ _ j _ => s.size - (intOf j).toNat)
  case atStart => exact ⟨[], 0, rfl, Nat.zero_le _, Nat.le_refl _, World.ownsRow_nil _ _ _ _, Below.refl _ _, rfl⟩
  case round =>
    obtain ⟨l, k, rfl, hk, hlk, hown, hBr, HR⟩ := hrel
    have hsr := hBr.size
    by_cases hlt : k < s.size
    · have cH := Tryz.strings_HasPrefix (s.extract k s.size) ⟨#[47]⟩ wr
      have e1 : (s.extract k s.size).data.toList = s.data.toList.drop k := ext_from s k
      have e2 : (s.extract 0 k).data.toList = s.data.toList.take k := ext_upto s k
      rw [e1] at cH
      cases hp : Lib.hasPrefix (s.data.toList.drop k) [47] with
      | false =>
        have cH2 : Calls Tryz.prog 255 #[.string (s.extract k s.size), .string ⟨#[47]⟩] wr fun e w' => e = .returned (.bool false) ∧ w' = wr := by rw [← hp]; exact cH
        have HN : Hid (l = foldU s.data.toList (k + 1)) := by show _ = _; rw [foldU_no hp]; exact HR.out
        clear cH hp e1 e2 HR
        go_wp2_with (go_at_call 255; refine cH2.mono ?_; rintro e w' ⟨rfl, rfl⟩)
        go_roundw
        case rel => exact ⟨l, k + 1, by go_num, by omega, by omega, hown, hBr, HN⟩
        case measure => simp [intOf]; omega
      | true =>
        have cH2 : Calls Tryz.prog 255 #[.string (s.extract k s.size), .string ⟨#[47]⟩] wr fun e w' => e = .returned (.bool true) ∧ wr = w' := by rw [← hp]; exact cH.mono fun e w' h => ⟨h.1, h.2.symm⟩
        have HN : Hid (l ++ [(s.extract 0 k).data.toList] = foldU s.data.toList (k + 1)) := by show _ = _; rw [foldU_yes hp, e2, HR.out]
        clear cH hp e1 e2 HR
        go_wp2_with (first | (go_at_call 255; refine cH2.mono ?_; rintro e w' ⟨rfl, rfl⟩) | (at_builtin; refine wpList_append_own _ rfl _ _ 43 rfl w.heap.size 9 i0 (.string ⟨#[]⟩) 1 16 Tryz.underlying43 hi0 hz0 hz1 hz2 rfl (by decide) _ _ _ rfl (hown.alloc _) ⟨wr.heap.size, 0, none⟩ 1 1 [.string (s.extract 0 k)] rfl rfl ?c1 ?c2 ?c3 ?c4 ?c5 ?_))
        case c1 => exact one_new _ _ _
        case c2 => intro u hu; simp at hu; subst hu; rfl
        case c3 => unfold maxLen; omega
        case c4 => omega
        case c5 => simp; omega
        intro v' w3 hown' hgrow _
        have R1 : w3.ownsRow w.heap.size 9 1 v' (l ++ [(s.extract 0 k).data.toList]).length ((l ++ [(s.extract 0 k).data.toList]).map strV) := by
          rw [List.map_append, List.length_append]; exact hown'
        have R2 : Below w.heap.size w w3 :=
          (hBr.alloc (by omega) _).grown hgrow (by simp; omega) (fun j hj => (hown.lt j hj).1)
        clear hown' hgrow hown
        go_wp2
        go_roundw
        case rel => exact ⟨_, k + 1, by go_num, by omega, by simp; omega, R1, R2, HN⟩
        case measure => simp [intOf]; omega
    · have hkk : k = s.size := by omega
      have HE : Hid (l = foldersS s.data.toList) := by show _ = _; rw [foldU_all, len_data, ← hkk]; exact HR.out
      obtain ⟨av, cv, hv⟩ := own_form hown
      subst hv
      clear hkk
      go_wp2
      go_ret
      exact ⟨_, rfl, by rw [← HE.out]; exact hown, hBr⟩
end Go.Proofs.YtgnfknjopafngaaGreatDoor
/-
  THE CODE, WALKED: clash; addFile's closure.
-/
namespace Go.Proofs.YtgnfknjopafngaaGreatDoor
open Go.RowKit

theorem contains_lib (l : List (List UInt8)) (x : ByteArray) (v : Value) (B : Nat) (w : World) (h : w.ownsRow B 9 1 v l.length (l.map strV)) (hl : l.length ≤ 1000000) :
    Calls Tryz.prog 218 #[v, .string x] w fun e w' => e = .returned (.bool (l.contains x.data.toList)) ∧ w' = w := by
  rcases RowIn.own h with ⟨rfl, h0, _⟩ | ⟨g, cap, rfl, h1, h2, h3, h4⟩
  · obtain rfl := List.length_eq_zero_iff.mp h0
    exact Tryz.slices_Contains_string_empty _ _ x w
  · have hc := Tryz.slices_Contains_string g 0 l.length cap (l.map fun q => ⟨q.toArray⟩) x w (by simp) (by omega) (fun j hj => by
      rw [List.length_map] at hj
      rw [Nat.zero_add]
      have := h4 j (strV l[j]) (by simp [hj])
      rw [this]
      simp [strV, hj])
    refine hc.mono fun e w' h => ⟨?_, h.2⟩
    rw [h.1]
    congr 2
    rw [Bool.eq_iff_iff, Lib.containsS_iff, List.contains_iff_mem, List.take_of_length_le (by simp)]
    constructor
    · intro hm
      obtain ⟨q, hq, e⟩ := List.mem_map.1 hm
      subst e
      exact hq
    · intro hm
      exact List.mem_map.2 ⟨_, hm, mk_data x⟩

def clashB (a b : ByteArray) : Bool := clashS a.data.toList b.data.toList
set_option maxRecDepth 100000 in
set_option maxHeartbeats 2000000 in
theorem clash_any (a b : ByteArray) (w : World) (ha : a.size ≤ 100000) (hb : b.size ≤ 100000) :
    Calls Tryz.prog 175 #[.string a, .string b] w fun e w' => e = .returned (.bool (clashB a b)) ∧ Below w.heap.size w w' := by
  have HC : Hid (clashB a b = (a.toList == b.toList || (foldersS b.data.toList).contains a.data.toList || (foldersS a.data.toList).contains b.data.toList)) := by
    show _ = _
    unfold clashB clashS
    rw [Lib.toList_data, Lib.toList_data]
  have lB : (foldersS b.data.toList).length ≤ 1000000 := by have := foldU_len b.data.toList b.data.toList.length; have := len_data b; rw [foldU_all]; omega
  have lA : (foldersS a.data.toList).length ≤ 1000000 := by have := foldU_len a.data.toList a.data.toList.length; have := len_data a; rw [foldU_all]; omega
  have cB := folders_any b w hb
  by_cases h0 : (a.toList == b.toList) = true
  · have HE : Hid (clashB a b = true) := by show _ = _; rw [HC.out, h0]; rfl
    clear cB
    go_enter Tryz.func175, Tryz.ntmps175
    go_wp2
    go_ret
    exact ⟨ret_bool HE.out.symm, Below.refl _ _⟩
  replace h0 : (a.toList == b.toList) = false := by simpa using h0
  cases h1 : (foldersS b.data.toList).contains a.data.toList with
  | true =>
    have HE : Hid (clashB a b = true) := by show _ = _; rw [HC.out, h0, h1]; rfl
    go_enter Tryz.func175, Tryz.ntmps175
    go_wp2_with fail
    refine cB.mono ?_
    rintro e w1 ⟨v, rfl, hv, hB1⟩
    have cC := contains_lib _ a v _ w1 hv lB
    rw [h1] at cC
    go_wp2_with (go_at_call 218; refine cC.mono ?_; rintro e w' ⟨rfl, rfl⟩)
    go_ret
    exact ⟨ret_bool HE.out.symm, hB1⟩
  | false =>
    have HE : Hid (clashB a b = (foldersS a.data.toList).contains b.data.toList) := by show _ = _; rw [HC.out, h0, h1]; rfl
    go_enter Tryz.func175, Tryz.ntmps175
    go_wp2_with fail
    refine cB.mono ?_
    rintro e w1 ⟨v, rfl, hv, hB1⟩
    have cC := contains_lib _ a v _ w1 hv lB
    rw [h1] at cC
    replace cC : Calls Tryz.prog 218 #[v, .string a] w1 fun e w' => e = .returned (.bool false) ∧ w1 = w' := cC.mono fun e w' h => ⟨h.1, h.2.symm⟩
    have cA := folders_any a w1 ha
    go_wp2_with (go_at_call 218; refine cC.mono ?_; rintro e w' ⟨rfl, rfl⟩)
    refine cA.mono ?_
    rintro e w2 ⟨v2, rfl, hv2, hB2⟩
    have cD := contains_lib _ b v2 _ w2 hv2 lA
    generalize (foldersS a.data.toList).contains b.data.toList = r at HE cD
    go_wp2_with (go_at_call 218; refine cD.mono ?_; rintro e w' ⟨rfl, rfl⟩)
    go_ret
    exact ⟨ret_bool HE.out.symm, bt hB1 hB2⟩

/-- A file whose path is short. -/
abbrev SFl : Type := { f : M.Fl // f.path.length ≤ 100000 }
def sflCells (x : SFl) : List Value := [strV x.1.path, strV x.1.content]

set_option maxRecDepth 100000 in
set_option maxHeartbeats 2000000 in
/-- addFile's closure, whatever world behind the one in which the file lies. -/
theorem addClosure_any (X : ByteArray) (fb : Nat) (g : SFl) (W : World) (hX : X.size ≤ 100000) (hf : W.cell? ⟨fb, 0, none⟩ = some (.string X)) :
    Calls Tryz.prog 174 #[.agg #[strV g.1.path, strV g.1.content], .pointer (some ⟨fb, 0, none⟩)] W fun e w' => e = .returned (.bool (clashS X.data.toList g.1.path)) ∧ Below W.heap.size W w' := by
  obtain ⟨⟨P, C⟩, hg⟩ := g
  have cC := fun wx => clash_any X ⟨P.toArray⟩ wx hX (by have := len_data ⟨P.toArray⟩; simp at this hg ⊢; omega)
  have e0 : clashB X ⟨P.toArray⟩ = clashS X.data.toList P := rfl
  rw [e0] at cC
  unfold strV
  generalize clashS X.data.toList P = r at cC ⊢
  have hlt : fb < W.heap.size := by
    rcases Nat.lt_or_ge fb W.heap.size with h | h
    · exact h
    · simp [World.cell?, Array.getElem?_eq_none h] at hf
  have hf2 : ∀ o, (W.alloc o).cell? ⟨fb, 0, none⟩ = some (.string X) := fun o => (World.cell?_alloc_past _ _ _ hlt).trans hf
  go_enter Tryz.func174, Tryz.ntmps174
  go_wp2_with fail
  refine (cC _).mono ?_
  rintro e w' ⟨rfl, hB⟩
  go_wp2
  go_ret
  exact ⟨rfl, bt ((Below.refl _ W).alloc (Nat.le_refl _) _) hB⟩
end Go.Proofs.YtgnfknjopafngaaGreatDoor
/-
  THE CODE, WALKED: addFile.
-/
namespace Go.Proofs.YtgnfknjopafngaaGreatDoor
open Go.RowKit

set_option maxHeartbeats 1000000 in
theorem indexFunc_nil (fv : Value) (w : World) :
    Calls Tryz.prog 217 #[.slice none 0 0, fv] w fun e w' => e = .returned (.int .i64 (-1)) ∧ w' = w := by
  go_enter Tryz.func217, Tryz.ntmps217
  go_wp2
  refine wp_loop_rounds 1 ?_
  rw [rounds_succ]
  go_wp2
  go_ret
  exact ⟨rfl, rfl⟩
set_option maxHeartbeats 1000000 in
theorem containsFunc_nil (fv : Value) (w : World) :
    Calls Tryz.prog 173 #[.slice none 0 0, fv] w fun e w' => e = .returned (.bool false) ∧ w' = w := by
  have cI := indexFunc_nil fv
  go_enter Tryz.func173, Tryz.ntmps173
  go_wp2_with (go_at_call 217; refine (cI _).mono ?_; rintro e w' ⟨rfl, rfl⟩)
  go_ret
  exact ⟨rfl, rfl⟩

theorem fl_cell2' {l : List M.Fl} {k : Nat} (hk : k < l.length) : (flsCells l)[2 * k + 1]? = some (strV l[k].content) := by
  induction l generalizing k with
  | nil => simp at hk
  | cons f l ih =>
    cases k with
    | zero => simp [flsCells, flCells]
    | succ k =>
      have := ih (k := k) (by simpa using hk)
      simp only [flsCells, List.flatMap_cons, flCells] at this ⊢
      rw [show 2 * (k + 1) + 1 = 2 * k + 1 + 1 + 1 by omega]
      simpa using this
theorem sfls {l : List M.Fl} (h : ∀ f ∈ l, f.path.length ≤ 100000) : ∃ zs : List SFl, l = zs.map Subtype.val := by
  refine ⟨l.attach.map fun x => ⟨x.1, h x.1 x.2⟩, ?_⟩
  simp
/-- ContainsFunc, over addFile's closure. -/
theorem containsFunc_any (X : ByteArray) (fb B : Nat) (l : List M.Fl) (v : Value) (w : World) (hX : X.size ≤ 100000) (hf : w.cell? ⟨fb, 0, none⟩ = some (.string X)) (hl : l.length ≤ 1000000)
    (h : w.ownsRow B 159 2 v l.length (flsCells l)) (hs : ∀ f ∈ l, f.path.length ≤ 100000) :
    Calls Tryz.prog 173 #[v, .func (.func 174) #[] #[.pointer (some ⟨fb, 0, none⟩)]] w fun e w' => e = .returned (.bool (l.any fun g => clashS X.data.toList g.path)) ∧ Below w.heap.size w w' := by
  rcases RowIn.own h with ⟨rfl, h0, _⟩ | ⟨g, cap, rfl, h1, h2, h3, h4⟩
  · obtain rfl := List.length_eq_zero_iff.mp h0
    exact (containsFunc_nil _ w).mono fun e w' h => ⟨h.1, by rw [h.2]; exact Below.refl _ _⟩
  · obtain ⟨zs, rfl⟩ := sfls hs
    haveI : Inhabited SFl := ⟨⟨⟨[], []⟩, Nat.zero_le _⟩⟩
    have hc := AnyQ.slices_ContainsFunc Tryz.layContains 2 Tryz.isAgg159 Tryz.sizeOf159 sflCells (fun _ => rfl) (fun x : SFl => clashS X.data.toList x.1.path) 174 #[.pointer (some ⟨fb, 0, none⟩)]
      (enters_of Tryz.func174 (by kernel_rfl) rfl) g 0 (zs.map Subtype.val).length cap zs w
      (fun W x hb => (addClosure_any X fb x W hX ((hb.cell (p := ⟨fb, 0, none⟩) (World.block_lt_of_cell? _ _ hf)).trans hf)).mono fun e w' h => ⟨h.1, hb.trans (h.2.mono hb.size)⟩)
      (by simp) (by omega) h3 (fun j hj i u hu => by
        rw [Nat.zero_add]
        have e : zs[j]! = zs[j] := getElem!_pos zs j hj
        rw [e] at hu
        refine h4 (j * 2 + i) u ?_
        unfold sflCells at hu
        have hj' : j < (zs.map Subtype.val).length := by simpa using hj
        match i, hu with
        | 0, hu =>
          have := fl_cell hj'
          rw [Nat.add_zero, Nat.mul_comm, this]
          simpa using hu
        | 1, hu =>
          have := fl_cell2' hj'
          rw [Nat.mul_comm, this]
          simpa using hu)
    refine hc.mono fun e w' h => ⟨?_, h.2⟩
    rw [h.1]
    congr 2
    rw [List.take_of_length_le (by simp), List.any_map]
    rfl
end Go.Proofs.YtgnfknjopafngaaGreatDoor
/-
  THE CODE, WALKED: addFile.
-/
namespace Go.Proofs.YtgnfknjopafngaaGreatDoor
open Go.RowKit

theorem infoFlC : (Tryz.prog.info? 159).map (fun i => (i.zero, i.size, i.bytes)) = some (some (.agg #[.string ⟨#[]⟩, .string ⟨#[]⟩]), 2, 32) := by kernel_rfl
/-- What addFile leaves. -/
def AddPost (o : Option (List M.Fl)) (B : Nat) (fv : Value) (w : World) (e : Ending) (w' : World) : Prop := match o with
  | none => Thrown e ∧ Below w.heap.size w w'
  | some l => ∃ v' wx, e = .returned v' ∧ w'.ownsRow B 159 2 v' l.length (flsCells l) ∧ Below w.heap.size w wx ∧ wx.grownBy w' fv.ownBlock
theorem add_none {o : Option (List M.Fl)} {B : Nat} {fv : Value} {w : World} {e : Ending} {w' : World} (ho : o = none) (h : Thrown e) (hb : Below w.heap.size w w') : AddPost o B fv w e w' := by
  subst ho; exact ⟨h, hb⟩

set_option maxRecDepth 100000 in
set_option maxHeartbeats 2000000 in
theorem addFile_any (l : List M.Fl) (X Y : ByteArray) (B : Nat) (fv : Value) (w : World) (hX : X.size ≤ 100000) (hl : l.length ≤ 1000000) (hB : B ≤ w.heap.size)
    (h : w.ownsRow B 159 2 fv l.length (flsCells l)) (hs : ∀ f ∈ l, f.path.length ≤ 100000) :
    Calls Tryz.prog 137 #[fv, .agg #[.string X, .string Y]] w (AddPost (if l.length < 4 ∧ (l.any fun g => clashS X.data.toList g.path) = false then some (l ++ [⟨X.data.toList, Y.data.toList⟩]) else none) B fv w) := by
  obtain ⟨i0, hi0, hz0, hz1, hz2⟩ := info_parts infoFlC
  obtain ⟨O, HO⟩ : ∃ O, Hid (O = if l.length < 4 ∧ (l.any fun g => clashS X.data.toList g.path) = false then some (l ++ [(⟨X.data.toList, Y.data.toList⟩ : M.Fl)]) else none) := ⟨_, rfl⟩
  rw [← HO.out]
  have cY := must_ok
  have cN := must_no
  have hmf : ∀ (fn : Fn) (first cap : Array Value) (w : World), (Instr.makeFunc fn first cap).run Tryz.prog w = .ok (.func fn first cap) w := fun _ _ _ _ => rfl
  obtain ⟨hB1, hz, hcl, hfz⟩ := newB w [.string X, .string Y] 159 0
  replace hB1 : Below w.heap.size w (w.alloc (.cells #[.string X, .string Y] 159)) := hB1
  replace hz : (w.alloc (.cells #[.string X, .string Y] 159)).heap.size = w.heap.size + 1 := hz
  have q0 : (w.alloc (.cells #[.string X, .string Y] 159)).cell? ⟨w.heap.size, 0, none⟩ = some (.string X) := hcl 0 _ rfl
  have q1 : (w.alloc (.cells #[.string X, .string Y] 159)).cell? ⟨w.heap.size, 1, none⟩ = some (.string Y) := hcl 1 _ rfl
  have hown1 := own_below h hB1
  have cF := containsFunc_any X w.heap.size B l fv _ hX q0 hl hown1 hs
  obtain ⟨af, cf, ef⟩ := own_form h
  subst ef
  by_cases h4 : l.length < 4
  · have h4' : (l.length : Int) < 4 := by omega
    cases hcl2 : (l.any fun g => clashS X.data.toList g.path) with
    | true =>
      rw [hcl2] at cF
      have HE : Hid (O = none) := HO.out.trans (if_neg (by rw [hcl2]; simp))
      clear hcl hfz hown1 hs h q0 q1 hz hcl2
      go_enter Tryz.func137, Tryz.ntmps137
      go_wp2_with (first | (go_at_call 83; refine (cY _).mono ?_; rintro e w' ⟨rfl, rfl⟩) | (go_at_call 173; refine cF.mono ?_; rintro e w2 ⟨rfl, hB2⟩) | (go_at_call 83; refine (cN _).mono ?_; rintro e w' ⟨rfl, rfl⟩))
      exact ⟨rfl, add_none HE.out rfl (bt hB1 hB2)⟩
    | false =>
      rw [hcl2] at cF
      have HE : Hid (O = some (l ++ [(⟨X.data.toList, Y.data.toList⟩ : M.Fl)])) := HO.out.trans (if_pos ⟨h4, hcl2⟩)
      replace cY : ∀ wx, Calls Tryz.prog 83 #[.bool true] wx fun e w' => e = .returned (.tuple #[]) ∧ wx = w' := fun wx => (cY wx).mono fun e w' h => ⟨h.1, h.2.symm⟩
      have HOW : Hid ((w.alloc (.cells #[.string X, .string Y] 159)).ownsRow B 159 2 (.slice af l.length cf) l.length (flsCells l)) := hown1
      have HQ0 : Hid ((w.alloc (.cells #[.string X, .string Y] 159)).cell? ⟨w.heap.size, 0, none⟩ = some (.string X)) := q0
      have HQ1 : Hid ((w.alloc (.cells #[.string X, .string Y] 159)).cell? ⟨w.heap.size, 1, none⟩ = some (.string Y)) := q1
      have HZ : Hid ((w.alloc (.cells #[.string X, .string Y] 159)).heap.size = w.heap.size + 1) := hz
      clear hcl hfz hown1 hs h q0 q1 hz hcl2 cN
      go_enter Tryz.func137, Tryz.ntmps137
      go_wp2_with ((go_at_call 83; refine (cY _).mono ?_; rintro e w' ⟨rfl, rfl⟩))
      refine cF.mono ?_
      rintro e w2 ⟨rfl, hB2⟩
      have r0 := (hB2.cell (p := ⟨w.heap.size, 0, none⟩) (by show w.heap.size < _; rw [HZ.out]; omega)).trans HQ0.out
      have r1 := (hB2.cell (p := ⟨w.heap.size, 1, none⟩) (by show w.heap.size < _; rw [HZ.out]; omega)).trans HQ1.out
      have hown2 := own_below HOW.out hB2
      have hs2 : w.heap.size < w2.heap.size := by have := hB2.size; have := HZ.out; omega
      have HB2 : Hid (Below w.heap.size w w2) := bt hB1 hB2
      clear hB2 cF
      go_wp2_with (first | (go_at_call 83; refine (cY _).mono ?_; rintro e w' ⟨rfl, rfl⟩) | (at_builtin; refine wpList_append_own _ rfl _ _ 106 rfl B 159 i0 (.agg #[.string ⟨#[]⟩, .string ⟨#[]⟩]) 2 32 Tryz.underlying106 hi0 hz0 hz1 hz2 rfl (by decide) _ _ _ rfl (hown2.alloc _) ⟨w2.heap.size, 0, none⟩ 1 1 [.string X, .string Y] rfl rfl ?c1 ?c2 ?c3 ?c4 ?c5 ?_))
      case c1 => exact new_cells _ [.string X, .string Y] _
      case c2 => intro u hu; simp at hu; rcases hu with rfl | rfl <;> rfl
      case c3 => unfold maxLen; omega
      case c4 => omega
      case c5 => simp; omega
      intro v' w3 hown' hgrow _
      obtain ⟨av, cv, ev⟩ := own_form hown'
      subst ev
      go_wp2
      go_ret
      refine (show AddPost O B (.slice af l.length cf) w _ _ from ?_)
      rw [HE.out]
      refine ⟨_, w2.alloc (.cells #[.string X, .string Y] 159), rfl, ?_, HB2.out.alloc (by omega) _, hgrow⟩
      rw [flsCells_snoc, List.length_append]
      exact hown'
  · have h4' : ¬ (l.length : Int) < 4 := by omega
    have hd : decide ((l.length : Int) < 4) = false := by simp; omega
    have HE : Hid (O = none) := HO.out.trans (if_neg (fun h => h4 h.1))
    clear hcl hfz hown1 hs h q0 q1 hz cF cY
    go_enter Tryz.func137, Tryz.ntmps137
    go_wp2_with ((go_at_call 83; refine (cN _).mono ?_; rintro e w' ⟨rfl, rfl⟩))
    exact ⟨rfl, add_none HE.out rfl hB1⟩
end Go.Proofs.YtgnfknjopafngaaGreatDoor
