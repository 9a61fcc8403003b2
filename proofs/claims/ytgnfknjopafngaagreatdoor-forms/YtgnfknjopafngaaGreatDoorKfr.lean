import Derived.Test.YtgnfknjopafngaaGreatDoorKfq
namespace Go.Proofs.YtgnfknjopafngaaGreatDoor
open Go.RowKit
theorem strV_str {H : ByteArray} {l : List UInt8} (h : H.data.toList = l) : strV l = .string H := by subst h; exact (strV_of H).symm
theorem one_head (p : M.Pk) (N V : ByteArray) (w : World) (an ab af : Option Addr) (cn cb cf : Nat) :
    One w ((w.alloc (.cells #[.string N, .string V, .slice an p.needs.length cn, .slice ab p.bars.length cb, .slice af p.files.length cf] 108)).alloc (.cells #[.string (⟨#[112, 97, 99, 107, 97, 103, 101, 32]⟩ ++ N ++ ⟨#[32]⟩ ++ V)] 9)) (.slice an p.needs.length cn) (.slice ab p.bars.length cb) (.slice af p.files.length cf) ∧
    ((w.alloc (.cells #[.string N, .string V, .slice an p.needs.length cn, .slice ab p.bars.length cb, .slice af p.files.length cf] 108)).alloc (.cells #[.string (⟨#[112, 97, 99, 107, 97, 103, 101, 32]⟩ ++ N ++ ⟨#[32]⟩ ++ V)] 9)).ownsRow (w.heap.size + 1) 9 1 (.slice (some ⟨w.heap.size + 1, 0, none⟩) 1 1) 1 [.string (⟨#[112, 97, 99, 107, 97, 103, 101, 32]⟩ ++ N ++ ⟨#[32]⟩ ++ V)] := by
  constructor
  · obtain ⟨a1, a2, a3, _⟩ := newB w [.string N, .string V, .slice an p.needs.length cn, .slice ab p.bars.length cb, .slice af p.files.length cf] 108 0
    have h0 : One w (w.alloc (.cells #[.string N, .string V, .slice an p.needs.length cn, .slice ab p.bars.length cb, .slice af p.files.length cf] 108)) (.slice an p.needs.length cn) (.slice ab p.bars.length cb) (.slice af p.files.length cf) :=
      ⟨a1, a3 2 _ rfl, a3 3 _ rfl, a3 4 _ rfl, by rw [show (w.alloc (.cells #[.string N, .string V, .slice an p.needs.length cn, .slice ab p.bars.length cb, .slice af p.files.length cf] 108)).heap.size = w.heap.size + 1 from a2]; omega⟩
    exact h0.below ((Below.refl _ _).alloc (Nat.le_refl _) _)
  · obtain ⟨_, a2, _, _⟩ := newB w [.string N, .string V, .slice an p.needs.length cn, .slice ab p.bars.length cb, .slice af p.files.length cf] 108 0
    have a2' : (w.alloc (.cells #[.string N, .string V, .slice an p.needs.length cn, .slice ab p.bars.length cb, .slice af p.files.length cf] 108)).heap.size = w.heap.size + 1 := a2
    have := own_lit (w.alloc (.cells #[.string N, .string V, .slice an p.needs.length cn, .slice ab p.bars.length cb, .slice af p.files.length cf] 108)) (w.heap.size + 1) (.string (⟨#[112, 97, 99, 107, 97, 103, 101, 32]⟩ ++ N ++ ⟨#[32]⟩ ++ V)) 9 (by rw [a2']; exact Nat.le_refl _)
    rw [a2'] at this
    exact this
structure OneAt (p : M.Pk) (N V : ByteArray) (w : World) (an ab af : Option Addr) (cn cb cf : Nat) : Prop where
  HN : Hid (N.data.toList = p.name)
  HV : Hid (V.data.toList = p.ver)
  hNs : N.size ≤ 100000
  hVs : V.size ≤ 100000
  HP : Hid (ShortP p)
  hn : Hid (NeedsIn w 0 w.heap.size (.slice an p.needs.length cn) p.needs)
  hb : Hid (RowIn w 0 w.heap.size (.slice ab p.bars.length cb) p.bars.length (chsCells p.bars))
  hf : Hid (RowIn w 0 w.heap.size (.slice af p.files.length cf) p.files.length (flsCells p.files))
def OneDo (p : M.Pk) (N V : ByteArray) (w : World) (an ab af : Option Addr) (cn cb cf : Nat) : Prop :=
    Calls Tryz.prog 56 #[.agg #[.string N, .string V, .slice an p.needs.length cn, .slice ab p.bars.length cb, .slice af p.files.length cf]] w fun e w' => ∃ T : ByteArray, e = .returned (.string T) ∧ T.data.toList = M.printS p ∧ Below w.heap.size w w'
theorem needs_no {p : M.Pk} (z : ¬ (0 : Int) < (p.needs.length : Int)) : Hid (needsPart p = []) := by
  show _ = _
  unfold needsPart
  rw [if_pos (List.length_eq_zero_iff.1 (by omega))]
theorem needs_yes {p : M.Pk} (z : (0 : Int) < (p.needs.length : Int)) : Hid (needsPart p = [M.needsW ++ M.joinS [44, 32] (p.needs.map (M.printedS [32, 124, 32]))]) := by
  show _ = _
  unfold needsPart
  rw [if_neg (by intro e; rw [e] at z; simp at z)]
theorem bars_no {p : M.Pk} (z : ¬ (0 : Int) < (p.bars.length : Int)) : Hid (barsPart p = []) := by
  show _ = _
  unfold barsPart
  rw [if_pos (List.length_eq_zero_iff.1 (by omega))]
theorem bars_yes {p : M.Pk} (z : (0 : Int) < (p.bars.length : Int)) : Hid (barsPart p = [M.barsW ++ M.printedS [44, 32] p.bars]) := by
  show _ = _
  unfold barsPart
  rw [if_neg (by intro e; rw [e] at z; simp at z)]
theorem files_no {p : M.Pk} (z : ¬ (0 : Int) < (p.files.length : Int)) : Hid (filesPart p = []) := by
  show _ = _
  unfold filesPart
  rw [if_pos (List.length_eq_zero_iff.1 (by omega))]
theorem files_yes {p : M.Pk} (z : (0 : Int) < (p.files.length : Int)) : Hid (filesPart p = [M.joinS [10] (p.files.map flText)]) := by
  show _ = _
  unfold filesPart
  rw [if_neg (by intro e; rw [e] at z; simp at z)]
set_option maxRecDepth 100000 in
set_option maxHeartbeats 4000000 in
theorem oneForm_nnn {p : M.Pk} {N V : ByteArray} {w : World} {an ab af : Option Addr} {cn cb cf : Nat} (h : OneAt p N V w an ab af cn cb cf) (z1 : ¬ (0 : Int) < (p.needs.length : Int)) (z2 : ¬ (0 : Int) < (p.bars.length : Int)) (z3 : ¬ (0 : Int) < (p.files.length : Int)) : OneDo p N V w an ab af cn cb cf := by
  obtain ⟨HN, HV, hNs, hVs, HP, -, -, -⟩ := h
  unfold OneDo
  obtain ⟨i0, hi0, hz0, hz1, hz2⟩ := info_parts infoStr
  have E1 := needs_no z1
  have E2 := bars_no z2
  have E3 := files_no z3
  obtain ⟨hO, hown⟩ := one_head p N V w an ab af cn cb cf
  obtain ⟨H, hH⟩ : ∃ H : ByteArray, H = ⟨#[112, 97, 99, 107, 97, 103, 101, 32]⟩ ++ N ++ ⟨#[32]⟩ ++ V := ⟨_, rfl⟩
  have HH : Hid (H.data.toList = M.headS p) := by
    show _ = _
    rw [hH, cat_toList, cat_toList, cat_toList, HN.out, HV.out]
    rfl
  have HO : Hid _ := hO
  have HW : Hid _ := hown
  clear hO hown
  go_enter Tryz.func56, Tryz.ntmps56
  go_wp2_with fail
  have hO := HO.out
  have hown := HW.out
  rw [← hH] at hO hown ⊢
  clear HO HW hH
  generalize (w.alloc (.cells #[.string N, .string V, .slice an p.needs.length cn, .slice ab p.bars.length cb, .slice af p.files.length cf] 108)).alloc (.cells #[.string H] 9) = W0 at hO hown ⊢
  have hown' : W0.ownsRow (w.heap.size + 1) 9 1 (.slice (some ⟨w.heap.size + 1, 0, none⟩) 1 1) (([M.headS p] ++ needsPart p) ++ barsPart p ++ filesPart p).length ((([M.headS p] ++ needsPart p) ++ barsPart p ++ filesPart p).map strV) := by
    have e : (([M.headS p] ++ needsPart p) ++ barsPart p ++ filesPart p).map strV = [.string H] := by
      rw [E1.out, E2.out, E3.out]
      show [strV (M.headS p)] = _
      rw [strV_str HH.out]
    have e2 : (([M.headS p] ++ needsPart p) ++ barsPart p ++ filesPart p).length = 1 := by rw [E1.out, E2.out, E3.out]; rfl
    rw [e, e2]
    exact hown
  have cJ := join_lib2 _ ⟨#[10]⟩ _ _ W0 hown' (by have := (parts_len p HP.out).2; omega) (parts_len p HP.out).1
  have e0 : (ByteArray.mk #[10]).data.toList = [10] := rfl
  rw [e0, print_is p] at cJ
  refine cJ.mono ?_
  rintro e w9 ⟨rfl, hB9⟩
  go_wp2
  go_ret
  exact ⟨_, rfl, rfl, bt hO.b hB9⟩
set_option maxRecDepth 100000 in
set_option maxHeartbeats 4000000 in
theorem oneForm_nny {p : M.Pk} {N V : ByteArray} {w : World} {an ab af : Option Addr} {cn cb cf : Nat} (h : OneAt p N V w an ab af cn cb cf) (z1 : ¬ (0 : Int) < (p.needs.length : Int)) (z2 : ¬ (0 : Int) < (p.bars.length : Int)) (z3 :  (0 : Int) < (p.files.length : Int)) : OneDo p N V w an ab af cn cb cf := by
  obtain ⟨HN, HV, hNs, hVs, HP, -, -, hf⟩ := h
  unfold OneDo
  obtain ⟨i0, hi0, hz0, hz1, hz2⟩ := info_parts infoStr
  have E1 := needs_no z1
  have E2 := bars_no z2
  have E3 := files_yes z3
  obtain ⟨hO, hown⟩ := one_head p N V w an ab af cn cb cf
  obtain ⟨H, hH⟩ : ∃ H : ByteArray, H = ⟨#[112, 97, 99, 107, 97, 103, 101, 32]⟩ ++ N ++ ⟨#[32]⟩ ++ V := ⟨_, rfl⟩
  have HH : Hid (H.data.toList = M.headS p) := by
    show _ = _
    rw [hH, cat_toList, cat_toList, cat_toList, HN.out, HV.out]
    rfl
  have HO : Hid _ := hO
  have HW : Hid _ := hown
  clear hO hown
  go_enter Tryz.func56, Tryz.ntmps56
  go_wp2_with fail
  have hO := HO.out
  have hown := HW.out
  rw [← hH] at hO hown ⊢
  clear HO HW hH
  generalize (w.alloc (.cells #[.string N, .string V, .slice an p.needs.length cn, .slice ab p.bars.length cb, .slice af p.files.length cf] 108)).alloc (.cells #[.string H] 9) = W0 at hO hown ⊢
  have cf := writeFiles_any (.slice af p.files.length cf) p.files ⟨#[10]⟩ W0 ((hf.out.keep fun g o _ hg => belowS hO.b hg).wide (Nat.zero_le _) hO.b.size) HP.out.filen HP.out.files (by decide)
  have lf : (M.joinS [10] (p.files.map flText)).length ≤ 1000000000000 := by
    have := filesPart_len p HP.out (M.joinS [10] (p.files.map flText)) (by rw [E3.out]; simp)
    try simp only [List.length_append] at this
    omega
  obtain ⟨Gf, hGf⟩ : ∃ G : ByteArray, G = ⟨(M.joinS [10] (p.files.map flText)).toArray⟩ := ⟨_, rfl⟩
  have hsf : Gf.size ≤ 1000000000000 := by rw [hGf, ← len_data]; exact lf
  have HGf : Hid (Gf.data.toList = M.joinS [10] (p.files.map flText)) := by show _ = _; rw [hGf]
  rw [← hGf] at cf
  clear hGf lf
  refine cf.mono ?_
  rintro e Wf ⟨rfl, hBf⟩
  clear cf
  replace hO := hO.below hBf
  replace hown := own_below hown hBf
  have d2f := hO.c2
  have d3f := hO.c3
  have d4f := hO.c4
  have hltf := hO.lt
  go_wp2_with (at_builtin; refine wpList_append_own _ rfl _ _ 43 rfl (w.heap.size + 1) 9 i0 (.string ⟨#[]⟩) 1 16 Tryz.underlying43 hi0 hz0 hz1 hz2 rfl (by decide) _ _ _ rfl (hown.alloc _) ⟨Wf.heap.size, 0, none⟩ 1 1 [.string Gf] rfl rfl ?c1 ?c2 ?c3 ?c4 ?c5 ?_)
  case c1 => exact one_new _ _ _
  case c2 => intro u hu; simp at hu; subst hu; rfl
  case c3 => unfold maxLen; omega
  case c4 => omega
  case c5 => simp; omega
  intro vf Xf hownf hgrowf _
  replace hO := hO.push hown hgrowf
  replace hown := hownf
  clear hownf hgrowf d2f d3f d4f hBf hltf
  obtain ⟨alf, clf, elf⟩ := own_form hown
  subst elf
  have e2f := hO.c2
  have e3f := hO.c3
  have e4f := hO.c4
  go_wp2_with fail
  have hown' : Xf.ownsRow (w.heap.size + 1) 9 1 (.slice alf 2 clf) (([M.headS p] ++ needsPart p) ++ barsPart p ++ filesPart p).length ((([M.headS p] ++ needsPart p) ++ barsPart p ++ filesPart p).map strV) := by
    have e : (([M.headS p] ++ needsPart p) ++ barsPart p ++ filesPart p).map strV = [.string H, .string Gf] := by
      rw [E1.out, E2.out, E3.out]
      show [strV (M.headS p), strV (M.joinS [10] (p.files.map flText))] = _
      rw [strV_str HH.out, strV_str HGf.out]
    have e2 : (([M.headS p] ++ needsPart p) ++ barsPart p ++ filesPart p).length = 2 := by rw [E1.out, E2.out, E3.out]; rfl
    rw [e, e2]
    exact hown
  have cJ := join_lib2 _ ⟨#[10]⟩ _ _ Xf hown' (by have := (parts_len p HP.out).2; omega) (parts_len p HP.out).1
  have e0 : (ByteArray.mk #[10]).data.toList = [10] := rfl
  rw [e0, print_is p] at cJ
  refine cJ.mono ?_
  rintro e w9 ⟨rfl, hB9⟩
  go_wp2
  go_ret
  exact ⟨_, rfl, rfl, bt hO.b hB9⟩
set_option maxRecDepth 100000 in
set_option maxHeartbeats 4000000 in
theorem oneForm_nyn {p : M.Pk} {N V : ByteArray} {w : World} {an ab af : Option Addr} {cn cb cf : Nat} (h : OneAt p N V w an ab af cn cb cf) (z1 : ¬ (0 : Int) < (p.needs.length : Int)) (z2 :  (0 : Int) < (p.bars.length : Int)) (z3 : ¬ (0 : Int) < (p.files.length : Int)) : OneDo p N V w an ab af cn cb cf := by
  obtain ⟨HN, HV, hNs, hVs, HP, -, hb, -⟩ := h
  unfold OneDo
  obtain ⟨i0, hi0, hz0, hz1, hz2⟩ := info_parts infoStr
  have E1 := needs_no z1
  have E2 := bars_yes z2
  have E3 := files_no z3
  obtain ⟨hO, hown⟩ := one_head p N V w an ab af cn cb cf
  obtain ⟨H, hH⟩ : ∃ H : ByteArray, H = ⟨#[112, 97, 99, 107, 97, 103, 101, 32]⟩ ++ N ++ ⟨#[32]⟩ ++ V := ⟨_, rfl⟩
  have HH : Hid (H.data.toList = M.headS p) := by
    show _ = _
    rw [hH, cat_toList, cat_toList, cat_toList, HN.out, HV.out]
    rfl
  have HO : Hid _ := hO
  have HW : Hid _ := hown
  clear hO hown
  go_enter Tryz.func56, Tryz.ntmps56
  go_wp2_with fail
  have hO := HO.out
  have hown := HW.out
  rw [← hH] at hO hown ⊢
  clear HO HW hH
  generalize (w.alloc (.cells #[.string N, .string V, .slice an p.needs.length cn, .slice ab p.bars.length cb, .slice af p.files.length cf] 108)).alloc (.cells #[.string H] 9) = W0 at hO hown ⊢
  have cb := writeChoices_any (.slice ab p.bars.length cb) p.bars ⟨#[44, 32]⟩ W0 ((hb.out.keep fun g o _ hg => belowS hO.b hg).wide (Nat.zero_le _) hO.b.size) HP.out.bars (by decide)
  have lb : (M.printedS [44, 32] p.bars).length ≤ 1000000000000 := by
    have := barsPart_len p HP.out (M.barsW ++ M.printedS [44, 32] p.bars) (by rw [E2.out]; simp)
    try simp only [List.length_append] at this
    omega
  obtain ⟨Gb, hGb⟩ : ∃ G : ByteArray, G = ⟨(M.printedS [44, 32] p.bars).toArray⟩ := ⟨_, rfl⟩
  have hsb : Gb.size ≤ 1000000000000 := by rw [hGb, ← len_data]; exact lb
  have HGb : Hid (Gb.data.toList = M.printedS [44, 32] p.bars) := by show _ = _; rw [hGb]
  rw [← hGb] at cb
  clear hGb lb
  refine cb.mono ?_
  rintro e Wb ⟨rfl, hBb⟩
  clear cb
  replace hO := hO.below hBb
  replace hown := own_below hown hBb
  have d2b := hO.c2
  have d3b := hO.c3
  have d4b := hO.c4
  have hltb := hO.lt
  go_wp2_with (at_builtin; refine wpList_append_own _ rfl _ _ 43 rfl (w.heap.size + 1) 9 i0 (.string ⟨#[]⟩) 1 16 Tryz.underlying43 hi0 hz0 hz1 hz2 rfl (by decide) _ _ _ rfl (hown.alloc _) ⟨Wb.heap.size, 0, none⟩ 1 1 [.string (⟨#[98, 97, 114, 115, 32]⟩ ++ Gb)] rfl rfl ?c1 ?c2 ?c3 ?c4 ?c5 ?_)
  case c1 => exact one_new _ _ _
  case c2 => intro u hu; simp at hu; subst hu; rfl
  case c3 => unfold maxLen; omega
  case c4 => omega
  case c5 => simp; omega
  intro vb Xb hownb hgrowb _
  replace hO := hO.push hown hgrowb
  replace hown := hownb
  clear hownb hgrowb d2b d3b d4b hBb hltb
  obtain ⟨alb, clb, elb⟩ := own_form hown
  subst elb
  have e2b := hO.c2
  have e3b := hO.c3
  have e4b := hO.c4
  go_wp2_with fail
  have hown' : Xb.ownsRow (w.heap.size + 1) 9 1 (.slice alb 2 clb) (([M.headS p] ++ needsPart p) ++ barsPart p ++ filesPart p).length ((([M.headS p] ++ needsPart p) ++ barsPart p ++ filesPart p).map strV) := by
    have e : (([M.headS p] ++ needsPart p) ++ barsPart p ++ filesPart p).map strV = [.string H, .string (⟨#[98, 97, 114, 115, 32]⟩ ++ Gb)] := by
      rw [E1.out, E2.out, E3.out]
      show [strV (M.headS p), strV (M.barsW ++ M.printedS [44, 32] p.bars)] = _
      rw [strV_str HH.out, strV_str (show (⟨#[98, 97, 114, 115, 32]⟩ ++ Gb).data.toList = M.barsW ++ M.printedS [44, 32] p.bars from by rw [cat_toList, HGb.out]; rfl)]
    have e2 : (([M.headS p] ++ needsPart p) ++ barsPart p ++ filesPart p).length = 2 := by rw [E1.out, E2.out, E3.out]; rfl
    rw [e, e2]
    exact hown
  have cJ := join_lib2 _ ⟨#[10]⟩ _ _ Xb hown' (by have := (parts_len p HP.out).2; omega) (parts_len p HP.out).1
  have e0 : (ByteArray.mk #[10]).data.toList = [10] := rfl
  rw [e0, print_is p] at cJ
  refine cJ.mono ?_
  rintro e w9 ⟨rfl, hB9⟩
  go_wp2
  go_ret
  exact ⟨_, rfl, rfl, bt hO.b hB9⟩
set_option maxRecDepth 100000 in
set_option maxHeartbeats 4000000 in
theorem oneForm_nyy {p : M.Pk} {N V : ByteArray} {w : World} {an ab af : Option Addr} {cn cb cf : Nat} (h : OneAt p N V w an ab af cn cb cf) (z1 : ¬ (0 : Int) < (p.needs.length : Int)) (z2 :  (0 : Int) < (p.bars.length : Int)) (z3 :  (0 : Int) < (p.files.length : Int)) : OneDo p N V w an ab af cn cb cf := by
  obtain ⟨HN, HV, hNs, hVs, HP, -, hb, hf⟩ := h
  unfold OneDo
  obtain ⟨i0, hi0, hz0, hz1, hz2⟩ := info_parts infoStr
  have E1 := needs_no z1
  have E2 := bars_yes z2
  have E3 := files_yes z3
  obtain ⟨hO, hown⟩ := one_head p N V w an ab af cn cb cf
  obtain ⟨H, hH⟩ : ∃ H : ByteArray, H = ⟨#[112, 97, 99, 107, 97, 103, 101, 32]⟩ ++ N ++ ⟨#[32]⟩ ++ V := ⟨_, rfl⟩
  have HH : Hid (H.data.toList = M.headS p) := by
    show _ = _
    rw [hH, cat_toList, cat_toList, cat_toList, HN.out, HV.out]
    rfl
  have HO : Hid _ := hO
  have HW : Hid _ := hown
  clear hO hown
  go_enter Tryz.func56, Tryz.ntmps56
  go_wp2_with fail
  have hO := HO.out
  have hown := HW.out
  rw [← hH] at hO hown ⊢
  clear HO HW hH
  generalize (w.alloc (.cells #[.string N, .string V, .slice an p.needs.length cn, .slice ab p.bars.length cb, .slice af p.files.length cf] 108)).alloc (.cells #[.string H] 9) = W0 at hO hown ⊢
  have cb := writeChoices_any (.slice ab p.bars.length cb) p.bars ⟨#[44, 32]⟩ W0 ((hb.out.keep fun g o _ hg => belowS hO.b hg).wide (Nat.zero_le _) hO.b.size) HP.out.bars (by decide)
  have lb : (M.printedS [44, 32] p.bars).length ≤ 1000000000000 := by
    have := barsPart_len p HP.out (M.barsW ++ M.printedS [44, 32] p.bars) (by rw [E2.out]; simp)
    try simp only [List.length_append] at this
    omega
  obtain ⟨Gb, hGb⟩ : ∃ G : ByteArray, G = ⟨(M.printedS [44, 32] p.bars).toArray⟩ := ⟨_, rfl⟩
  have hsb : Gb.size ≤ 1000000000000 := by rw [hGb, ← len_data]; exact lb
  have HGb : Hid (Gb.data.toList = M.printedS [44, 32] p.bars) := by show _ = _; rw [hGb]
  rw [← hGb] at cb
  clear hGb lb
  refine cb.mono ?_
  rintro e Wb ⟨rfl, hBb⟩
  clear cb
  replace hO := hO.below hBb
  replace hown := own_below hown hBb
  have d2b := hO.c2
  have d3b := hO.c3
  have d4b := hO.c4
  have hltb := hO.lt
  go_wp2_with (at_builtin; refine wpList_append_own _ rfl _ _ 43 rfl (w.heap.size + 1) 9 i0 (.string ⟨#[]⟩) 1 16 Tryz.underlying43 hi0 hz0 hz1 hz2 rfl (by decide) _ _ _ rfl (hown.alloc _) ⟨Wb.heap.size, 0, none⟩ 1 1 [.string (⟨#[98, 97, 114, 115, 32]⟩ ++ Gb)] rfl rfl ?c1 ?c2 ?c3 ?c4 ?c5 ?_)
  case c1 => exact one_new _ _ _
  case c2 => intro u hu; simp at hu; subst hu; rfl
  case c3 => unfold maxLen; omega
  case c4 => omega
  case c5 => simp; omega
  intro vb Xb hownb hgrowb _
  replace hO := hO.push hown hgrowb
  replace hown := hownb
  clear hownb hgrowb d2b d3b d4b hBb hltb
  obtain ⟨alb, clb, elb⟩ := own_form hown
  subst elb
  have e2b := hO.c2
  have e3b := hO.c3
  have e4b := hO.c4
  go_wp2_with fail
  have cf := writeFiles_any (.slice af p.files.length cf) p.files ⟨#[10]⟩ Xb ((hf.out.keep fun g o _ hg => belowS hO.b hg).wide (Nat.zero_le _) hO.b.size) HP.out.filen HP.out.files (by decide)
  have lf : (M.joinS [10] (p.files.map flText)).length ≤ 1000000000000 := by
    have := filesPart_len p HP.out (M.joinS [10] (p.files.map flText)) (by rw [E3.out]; simp)
    try simp only [List.length_append] at this
    omega
  obtain ⟨Gf, hGf⟩ : ∃ G : ByteArray, G = ⟨(M.joinS [10] (p.files.map flText)).toArray⟩ := ⟨_, rfl⟩
  have hsf : Gf.size ≤ 1000000000000 := by rw [hGf, ← len_data]; exact lf
  have HGf : Hid (Gf.data.toList = M.joinS [10] (p.files.map flText)) := by show _ = _; rw [hGf]
  rw [← hGf] at cf
  clear hGf lf
  refine cf.mono ?_
  rintro e Wf ⟨rfl, hBf⟩
  clear cf
  replace hO := hO.below hBf
  replace hown := own_below hown hBf
  have d2f := hO.c2
  have d3f := hO.c3
  have d4f := hO.c4
  have hltf := hO.lt
  go_wp2_with (at_builtin; refine wpList_append_own _ rfl _ _ 43 rfl (w.heap.size + 1) 9 i0 (.string ⟨#[]⟩) 1 16 Tryz.underlying43 hi0 hz0 hz1 hz2 rfl (by decide) _ _ _ rfl (hown.alloc _) ⟨Wf.heap.size, 0, none⟩ 1 1 [.string Gf] rfl rfl ?c1 ?c2 ?c3 ?c4 ?c5 ?_)
  case c1 => exact one_new _ _ _
  case c2 => intro u hu; simp at hu; subst hu; rfl
  case c3 => unfold maxLen; omega
  case c4 => omega
  case c5 => simp; omega
  intro vf Xf hownf hgrowf _
  replace hO := hO.push hown hgrowf
  replace hown := hownf
  clear hownf hgrowf d2f d3f d4f hBf hltf
  obtain ⟨alf, clf, elf⟩ := own_form hown
  subst elf
  have e2f := hO.c2
  have e3f := hO.c3
  have e4f := hO.c4
  go_wp2_with fail
  have hown' : Xf.ownsRow (w.heap.size + 1) 9 1 (.slice alf 3 clf) (([M.headS p] ++ needsPart p) ++ barsPart p ++ filesPart p).length ((([M.headS p] ++ needsPart p) ++ barsPart p ++ filesPart p).map strV) := by
    have e : (([M.headS p] ++ needsPart p) ++ barsPart p ++ filesPart p).map strV = [.string H, .string (⟨#[98, 97, 114, 115, 32]⟩ ++ Gb), .string Gf] := by
      rw [E1.out, E2.out, E3.out]
      show [strV (M.headS p), strV (M.barsW ++ M.printedS [44, 32] p.bars), strV (M.joinS [10] (p.files.map flText))] = _
      rw [strV_str HH.out, strV_str (show (⟨#[98, 97, 114, 115, 32]⟩ ++ Gb).data.toList = M.barsW ++ M.printedS [44, 32] p.bars from by rw [cat_toList, HGb.out]; rfl), strV_str HGf.out]
    have e2 : (([M.headS p] ++ needsPart p) ++ barsPart p ++ filesPart p).length = 3 := by rw [E1.out, E2.out, E3.out]; rfl
    rw [e, e2]
    exact hown
  have cJ := join_lib2 _ ⟨#[10]⟩ _ _ Xf hown' (by have := (parts_len p HP.out).2; omega) (parts_len p HP.out).1
  have e0 : (ByteArray.mk #[10]).data.toList = [10] := rfl
  rw [e0, print_is p] at cJ
  refine cJ.mono ?_
  rintro e w9 ⟨rfl, hB9⟩
  go_wp2
  go_ret
  exact ⟨_, rfl, rfl, bt hO.b hB9⟩
set_option maxRecDepth 100000 in
set_option maxHeartbeats 4000000 in
theorem oneForm_ynn {p : M.Pk} {N V : ByteArray} {w : World} {an ab af : Option Addr} {cn cb cf : Nat} (h : OneAt p N V w an ab af cn cb cf) (z1 :  (0 : Int) < (p.needs.length : Int)) (z2 : ¬ (0 : Int) < (p.bars.length : Int)) (z3 : ¬ (0 : Int) < (p.files.length : Int)) : OneDo p N V w an ab af cn cb cf := by
  obtain ⟨HN, HV, hNs, hVs, HP, hn, -, -⟩ := h
  unfold OneDo
  obtain ⟨i0, hi0, hz0, hz1, hz2⟩ := info_parts infoStr
  have E1 := needs_yes z1
  have E2 := bars_no z2
  have E3 := files_no z3
  obtain ⟨hO, hown⟩ := one_head p N V w an ab af cn cb cf
  obtain ⟨H, hH⟩ : ∃ H : ByteArray, H = ⟨#[112, 97, 99, 107, 97, 103, 101, 32]⟩ ++ N ++ ⟨#[32]⟩ ++ V := ⟨_, rfl⟩
  have HH : Hid (H.data.toList = M.headS p) := by
    show _ = _
    rw [hH, cat_toList, cat_toList, cat_toList, HN.out, HV.out]
    rfl
  have HO : Hid _ := hO
  have HW : Hid _ := hown
  clear hO hown
  go_enter Tryz.func56, Tryz.ntmps56
  go_wp2_with fail
  have hO := HO.out
  have hown := HW.out
  rw [← hH] at hO hown ⊢
  clear HO HW hH
  generalize (w.alloc (.cells #[.string N, .string V, .slice an p.needs.length cn, .slice ab p.bars.length cb, .slice af p.files.length cf] 108)).alloc (.cells #[.string H] 9) = W0 at hO hown ⊢
  have cn := writeGroups_any (.slice an p.needs.length cn) p.needs ⟨#[44, 32]⟩ W0 ((hn.out.keep fun g o _ hg => belowS hO.b hg).wide (Nat.zero_le _) hO.b.size) HP.out.needn HP.out.needs (by decide)
  have ln : (M.joinS [44, 32] (p.needs.map (M.printedS [32, 124, 32]))).length ≤ 1000000000000 := by
    have := needsPart_len p HP.out (M.needsW ++ M.joinS [44, 32] (p.needs.map (M.printedS [32, 124, 32]))) (by rw [E1.out]; simp)
    try simp only [List.length_append] at this
    omega
  obtain ⟨Gn, hGn⟩ : ∃ G : ByteArray, G = ⟨(M.joinS [44, 32] (p.needs.map (M.printedS [32, 124, 32]))).toArray⟩ := ⟨_, rfl⟩
  have hsn : Gn.size ≤ 1000000000000 := by rw [hGn, ← len_data]; exact ln
  have HGn : Hid (Gn.data.toList = M.joinS [44, 32] (p.needs.map (M.printedS [32, 124, 32]))) := by show _ = _; rw [hGn]
  rw [← hGn] at cn
  clear hGn ln
  refine cn.mono ?_
  rintro e Wn ⟨rfl, hBn⟩
  clear cn
  replace hO := hO.below hBn
  replace hown := own_below hown hBn
  have d2n := hO.c2
  have d3n := hO.c3
  have d4n := hO.c4
  have hltn := hO.lt
  go_wp2_with (at_builtin; refine wpList_append_own _ rfl _ _ 43 rfl (w.heap.size + 1) 9 i0 (.string ⟨#[]⟩) 1 16 Tryz.underlying43 hi0 hz0 hz1 hz2 rfl (by decide) _ _ _ rfl (hown.alloc _) ⟨Wn.heap.size, 0, none⟩ 1 1 [.string (⟨#[110, 101, 101, 100, 115, 32]⟩ ++ Gn)] rfl rfl ?c1 ?c2 ?c3 ?c4 ?c5 ?_)
  case c1 => exact one_new _ _ _
  case c2 => intro u hu; simp at hu; subst hu; rfl
  case c3 => unfold maxLen; omega
  case c4 => omega
  case c5 => simp; omega
  intro vn Xn hownn hgrown _
  replace hO := hO.push hown hgrown
  replace hown := hownn
  clear hownn hgrown d2n d3n d4n hBn hltn
  obtain ⟨aln, cln, eln⟩ := own_form hown
  subst eln
  have e2n := hO.c2
  have e3n := hO.c3
  have e4n := hO.c4
  go_wp2_with fail
  have hown' : Xn.ownsRow (w.heap.size + 1) 9 1 (.slice aln 2 cln) (([M.headS p] ++ needsPart p) ++ barsPart p ++ filesPart p).length ((([M.headS p] ++ needsPart p) ++ barsPart p ++ filesPart p).map strV) := by
    have e : (([M.headS p] ++ needsPart p) ++ barsPart p ++ filesPart p).map strV = [.string H, .string (⟨#[110, 101, 101, 100, 115, 32]⟩ ++ Gn)] := by
      rw [E1.out, E2.out, E3.out]
      show [strV (M.headS p), strV (M.needsW ++ M.joinS [44, 32] (p.needs.map (M.printedS [32, 124, 32])))] = _
      rw [strV_str HH.out, strV_str (show (⟨#[110, 101, 101, 100, 115, 32]⟩ ++ Gn).data.toList = M.needsW ++ M.joinS [44, 32] (p.needs.map (M.printedS [32, 124, 32])) from by rw [cat_toList, HGn.out]; rfl)]
    have e2 : (([M.headS p] ++ needsPart p) ++ barsPart p ++ filesPart p).length = 2 := by rw [E1.out, E2.out, E3.out]; rfl
    rw [e, e2]
    exact hown
  have cJ := join_lib2 _ ⟨#[10]⟩ _ _ Xn hown' (by have := (parts_len p HP.out).2; omega) (parts_len p HP.out).1
  have e0 : (ByteArray.mk #[10]).data.toList = [10] := rfl
  rw [e0, print_is p] at cJ
  refine cJ.mono ?_
  rintro e w9 ⟨rfl, hB9⟩
  go_wp2
  go_ret
  exact ⟨_, rfl, rfl, bt hO.b hB9⟩
set_option maxRecDepth 100000 in
set_option maxHeartbeats 4000000 in
theorem oneForm_yny {p : M.Pk} {N V : ByteArray} {w : World} {an ab af : Option Addr} {cn cb cf : Nat} (h : OneAt p N V w an ab af cn cb cf) (z1 :  (0 : Int) < (p.needs.length : Int)) (z2 : ¬ (0 : Int) < (p.bars.length : Int)) (z3 :  (0 : Int) < (p.files.length : Int)) : OneDo p N V w an ab af cn cb cf := by
  obtain ⟨HN, HV, hNs, hVs, HP, hn, -, hf⟩ := h
  unfold OneDo
  obtain ⟨i0, hi0, hz0, hz1, hz2⟩ := info_parts infoStr
  have E1 := needs_yes z1
  have E2 := bars_no z2
  have E3 := files_yes z3
  obtain ⟨hO, hown⟩ := one_head p N V w an ab af cn cb cf
  obtain ⟨H, hH⟩ : ∃ H : ByteArray, H = ⟨#[112, 97, 99, 107, 97, 103, 101, 32]⟩ ++ N ++ ⟨#[32]⟩ ++ V := ⟨_, rfl⟩
  have HH : Hid (H.data.toList = M.headS p) := by
    show _ = _
    rw [hH, cat_toList, cat_toList, cat_toList, HN.out, HV.out]
    rfl
  have HO : Hid _ := hO
  have HW : Hid _ := hown
  clear hO hown
  go_enter Tryz.func56, Tryz.ntmps56
  go_wp2_with fail
  have hO := HO.out
  have hown := HW.out
  rw [← hH] at hO hown ⊢
  clear HO HW hH
  generalize (w.alloc (.cells #[.string N, .string V, .slice an p.needs.length cn, .slice ab p.bars.length cb, .slice af p.files.length cf] 108)).alloc (.cells #[.string H] 9) = W0 at hO hown ⊢
  have cn := writeGroups_any (.slice an p.needs.length cn) p.needs ⟨#[44, 32]⟩ W0 ((hn.out.keep fun g o _ hg => belowS hO.b hg).wide (Nat.zero_le _) hO.b.size) HP.out.needn HP.out.needs (by decide)
  have ln : (M.joinS [44, 32] (p.needs.map (M.printedS [32, 124, 32]))).length ≤ 1000000000000 := by
    have := needsPart_len p HP.out (M.needsW ++ M.joinS [44, 32] (p.needs.map (M.printedS [32, 124, 32]))) (by rw [E1.out]; simp)
    try simp only [List.length_append] at this
    omega
  obtain ⟨Gn, hGn⟩ : ∃ G : ByteArray, G = ⟨(M.joinS [44, 32] (p.needs.map (M.printedS [32, 124, 32]))).toArray⟩ := ⟨_, rfl⟩
  have hsn : Gn.size ≤ 1000000000000 := by rw [hGn, ← len_data]; exact ln
  have HGn : Hid (Gn.data.toList = M.joinS [44, 32] (p.needs.map (M.printedS [32, 124, 32]))) := by show _ = _; rw [hGn]
  rw [← hGn] at cn
  clear hGn ln
  refine cn.mono ?_
  rintro e Wn ⟨rfl, hBn⟩
  clear cn
  replace hO := hO.below hBn
  replace hown := own_below hown hBn
  have d2n := hO.c2
  have d3n := hO.c3
  have d4n := hO.c4
  have hltn := hO.lt
  go_wp2_with (at_builtin; refine wpList_append_own _ rfl _ _ 43 rfl (w.heap.size + 1) 9 i0 (.string ⟨#[]⟩) 1 16 Tryz.underlying43 hi0 hz0 hz1 hz2 rfl (by decide) _ _ _ rfl (hown.alloc _) ⟨Wn.heap.size, 0, none⟩ 1 1 [.string (⟨#[110, 101, 101, 100, 115, 32]⟩ ++ Gn)] rfl rfl ?c1 ?c2 ?c3 ?c4 ?c5 ?_)
  case c1 => exact one_new _ _ _
  case c2 => intro u hu; simp at hu; subst hu; rfl
  case c3 => unfold maxLen; omega
  case c4 => omega
  case c5 => simp; omega
  intro vn Xn hownn hgrown _
  replace hO := hO.push hown hgrown
  replace hown := hownn
  clear hownn hgrown d2n d3n d4n hBn hltn
  obtain ⟨aln, cln, eln⟩ := own_form hown
  subst eln
  have e2n := hO.c2
  have e3n := hO.c3
  have e4n := hO.c4
  go_wp2_with fail
  have cf := writeFiles_any (.slice af p.files.length cf) p.files ⟨#[10]⟩ Xn ((hf.out.keep fun g o _ hg => belowS hO.b hg).wide (Nat.zero_le _) hO.b.size) HP.out.filen HP.out.files (by decide)
  have lf : (M.joinS [10] (p.files.map flText)).length ≤ 1000000000000 := by
    have := filesPart_len p HP.out (M.joinS [10] (p.files.map flText)) (by rw [E3.out]; simp)
    try simp only [List.length_append] at this
    omega
  obtain ⟨Gf, hGf⟩ : ∃ G : ByteArray, G = ⟨(M.joinS [10] (p.files.map flText)).toArray⟩ := ⟨_, rfl⟩
  have hsf : Gf.size ≤ 1000000000000 := by rw [hGf, ← len_data]; exact lf
  have HGf : Hid (Gf.data.toList = M.joinS [10] (p.files.map flText)) := by show _ = _; rw [hGf]
  rw [← hGf] at cf
  clear hGf lf
  refine cf.mono ?_
  rintro e Wf ⟨rfl, hBf⟩
  clear cf
  replace hO := hO.below hBf
  replace hown := own_below hown hBf
  have d2f := hO.c2
  have d3f := hO.c3
  have d4f := hO.c4
  have hltf := hO.lt
  go_wp2_with (at_builtin; refine wpList_append_own _ rfl _ _ 43 rfl (w.heap.size + 1) 9 i0 (.string ⟨#[]⟩) 1 16 Tryz.underlying43 hi0 hz0 hz1 hz2 rfl (by decide) _ _ _ rfl (hown.alloc _) ⟨Wf.heap.size, 0, none⟩ 1 1 [.string Gf] rfl rfl ?c1 ?c2 ?c3 ?c4 ?c5 ?_)
  case c1 => exact one_new _ _ _
  case c2 => intro u hu; simp at hu; subst hu; rfl
  case c3 => unfold maxLen; omega
  case c4 => omega
  case c5 => simp; omega
  intro vf Xf hownf hgrowf _
  replace hO := hO.push hown hgrowf
  replace hown := hownf
  clear hownf hgrowf d2f d3f d4f hBf hltf
  obtain ⟨alf, clf, elf⟩ := own_form hown
  subst elf
  have e2f := hO.c2
  have e3f := hO.c3
  have e4f := hO.c4
  go_wp2_with fail
  have hown' : Xf.ownsRow (w.heap.size + 1) 9 1 (.slice alf 3 clf) (([M.headS p] ++ needsPart p) ++ barsPart p ++ filesPart p).length ((([M.headS p] ++ needsPart p) ++ barsPart p ++ filesPart p).map strV) := by
    have e : (([M.headS p] ++ needsPart p) ++ barsPart p ++ filesPart p).map strV = [.string H, .string (⟨#[110, 101, 101, 100, 115, 32]⟩ ++ Gn), .string Gf] := by
      rw [E1.out, E2.out, E3.out]
      show [strV (M.headS p), strV (M.needsW ++ M.joinS [44, 32] (p.needs.map (M.printedS [32, 124, 32]))), strV (M.joinS [10] (p.files.map flText))] = _
      rw [strV_str HH.out, strV_str (show (⟨#[110, 101, 101, 100, 115, 32]⟩ ++ Gn).data.toList = M.needsW ++ M.joinS [44, 32] (p.needs.map (M.printedS [32, 124, 32])) from by rw [cat_toList, HGn.out]; rfl), strV_str HGf.out]
    have e2 : (([M.headS p] ++ needsPart p) ++ barsPart p ++ filesPart p).length = 3 := by rw [E1.out, E2.out, E3.out]; rfl
    rw [e, e2]
    exact hown
  have cJ := join_lib2 _ ⟨#[10]⟩ _ _ Xf hown' (by have := (parts_len p HP.out).2; omega) (parts_len p HP.out).1
  have e0 : (ByteArray.mk #[10]).data.toList = [10] := rfl
  rw [e0, print_is p] at cJ
  refine cJ.mono ?_
  rintro e w9 ⟨rfl, hB9⟩
  go_wp2
  go_ret
  exact ⟨_, rfl, rfl, bt hO.b hB9⟩
set_option maxRecDepth 100000 in
set_option maxHeartbeats 4000000 in
theorem oneForm_yyn {p : M.Pk} {N V : ByteArray} {w : World} {an ab af : Option Addr} {cn cb cf : Nat} (h : OneAt p N V w an ab af cn cb cf) (z1 :  (0 : Int) < (p.needs.length : Int)) (z2 :  (0 : Int) < (p.bars.length : Int)) (z3 : ¬ (0 : Int) < (p.files.length : Int)) : OneDo p N V w an ab af cn cb cf := by
  obtain ⟨HN, HV, hNs, hVs, HP, hn, hb, -⟩ := h
  unfold OneDo
  obtain ⟨i0, hi0, hz0, hz1, hz2⟩ := info_parts infoStr
  have E1 := needs_yes z1
  have E2 := bars_yes z2
  have E3 := files_no z3
  obtain ⟨hO, hown⟩ := one_head p N V w an ab af cn cb cf
  obtain ⟨H, hH⟩ : ∃ H : ByteArray, H = ⟨#[112, 97, 99, 107, 97, 103, 101, 32]⟩ ++ N ++ ⟨#[32]⟩ ++ V := ⟨_, rfl⟩
  have HH : Hid (H.data.toList = M.headS p) := by
    show _ = _
    rw [hH, cat_toList, cat_toList, cat_toList, HN.out, HV.out]
    rfl
  have HO : Hid _ := hO
  have HW : Hid _ := hown
  clear hO hown
  go_enter Tryz.func56, Tryz.ntmps56
  go_wp2_with fail
  have hO := HO.out
  have hown := HW.out
  rw [← hH] at hO hown ⊢
  clear HO HW hH
  generalize (w.alloc (.cells #[.string N, .string V, .slice an p.needs.length cn, .slice ab p.bars.length cb, .slice af p.files.length cf] 108)).alloc (.cells #[.string H] 9) = W0 at hO hown ⊢
  have cn := writeGroups_any (.slice an p.needs.length cn) p.needs ⟨#[44, 32]⟩ W0 ((hn.out.keep fun g o _ hg => belowS hO.b hg).wide (Nat.zero_le _) hO.b.size) HP.out.needn HP.out.needs (by decide)
  have ln : (M.joinS [44, 32] (p.needs.map (M.printedS [32, 124, 32]))).length ≤ 1000000000000 := by
    have := needsPart_len p HP.out (M.needsW ++ M.joinS [44, 32] (p.needs.map (M.printedS [32, 124, 32]))) (by rw [E1.out]; simp)
    try simp only [List.length_append] at this
    omega
  obtain ⟨Gn, hGn⟩ : ∃ G : ByteArray, G = ⟨(M.joinS [44, 32] (p.needs.map (M.printedS [32, 124, 32]))).toArray⟩ := ⟨_, rfl⟩
  have hsn : Gn.size ≤ 1000000000000 := by rw [hGn, ← len_data]; exact ln
  have HGn : Hid (Gn.data.toList = M.joinS [44, 32] (p.needs.map (M.printedS [32, 124, 32]))) := by show _ = _; rw [hGn]
  rw [← hGn] at cn
  clear hGn ln
  refine cn.mono ?_
  rintro e Wn ⟨rfl, hBn⟩
  clear cn
  replace hO := hO.below hBn
  replace hown := own_below hown hBn
  have d2n := hO.c2
  have d3n := hO.c3
  have d4n := hO.c4
  have hltn := hO.lt
  go_wp2_with (at_builtin; refine wpList_append_own _ rfl _ _ 43 rfl (w.heap.size + 1) 9 i0 (.string ⟨#[]⟩) 1 16 Tryz.underlying43 hi0 hz0 hz1 hz2 rfl (by decide) _ _ _ rfl (hown.alloc _) ⟨Wn.heap.size, 0, none⟩ 1 1 [.string (⟨#[110, 101, 101, 100, 115, 32]⟩ ++ Gn)] rfl rfl ?c1 ?c2 ?c3 ?c4 ?c5 ?_)
  case c1 => exact one_new _ _ _
  case c2 => intro u hu; simp at hu; subst hu; rfl
  case c3 => unfold maxLen; omega
  case c4 => omega
  case c5 => simp; omega
  intro vn Xn hownn hgrown _
  replace hO := hO.push hown hgrown
  replace hown := hownn
  clear hownn hgrown d2n d3n d4n hBn hltn
  obtain ⟨aln, cln, eln⟩ := own_form hown
  subst eln
  have e2n := hO.c2
  have e3n := hO.c3
  have e4n := hO.c4
  go_wp2_with fail
  have cb := writeChoices_any (.slice ab p.bars.length cb) p.bars ⟨#[44, 32]⟩ Xn ((hb.out.keep fun g o _ hg => belowS hO.b hg).wide (Nat.zero_le _) hO.b.size) HP.out.bars (by decide)
  have lb : (M.printedS [44, 32] p.bars).length ≤ 1000000000000 := by
    have := barsPart_len p HP.out (M.barsW ++ M.printedS [44, 32] p.bars) (by rw [E2.out]; simp)
    try simp only [List.length_append] at this
    omega
  obtain ⟨Gb, hGb⟩ : ∃ G : ByteArray, G = ⟨(M.printedS [44, 32] p.bars).toArray⟩ := ⟨_, rfl⟩
  have hsb : Gb.size ≤ 1000000000000 := by rw [hGb, ← len_data]; exact lb
  have HGb : Hid (Gb.data.toList = M.printedS [44, 32] p.bars) := by show _ = _; rw [hGb]
  rw [← hGb] at cb
  clear hGb lb
  refine cb.mono ?_
  rintro e Wb ⟨rfl, hBb⟩
  clear cb
  replace hO := hO.below hBb
  replace hown := own_below hown hBb
  have d2b := hO.c2
  have d3b := hO.c3
  have d4b := hO.c4
  have hltb := hO.lt
  go_wp2_with (at_builtin; refine wpList_append_own _ rfl _ _ 43 rfl (w.heap.size + 1) 9 i0 (.string ⟨#[]⟩) 1 16 Tryz.underlying43 hi0 hz0 hz1 hz2 rfl (by decide) _ _ _ rfl (hown.alloc _) ⟨Wb.heap.size, 0, none⟩ 1 1 [.string (⟨#[98, 97, 114, 115, 32]⟩ ++ Gb)] rfl rfl ?c1 ?c2 ?c3 ?c4 ?c5 ?_)
  case c1 => exact one_new _ _ _
  case c2 => intro u hu; simp at hu; subst hu; rfl
  case c3 => unfold maxLen; omega
  case c4 => omega
  case c5 => simp; omega
  intro vb Xb hownb hgrowb _
  replace hO := hO.push hown hgrowb
  replace hown := hownb
  clear hownb hgrowb d2b d3b d4b hBb hltb
  obtain ⟨alb, clb, elb⟩ := own_form hown
  subst elb
  have e2b := hO.c2
  have e3b := hO.c3
  have e4b := hO.c4
  go_wp2_with fail
  have hown' : Xb.ownsRow (w.heap.size + 1) 9 1 (.slice alb 3 clb) (([M.headS p] ++ needsPart p) ++ barsPart p ++ filesPart p).length ((([M.headS p] ++ needsPart p) ++ barsPart p ++ filesPart p).map strV) := by
    have e : (([M.headS p] ++ needsPart p) ++ barsPart p ++ filesPart p).map strV = [.string H, .string (⟨#[110, 101, 101, 100, 115, 32]⟩ ++ Gn), .string (⟨#[98, 97, 114, 115, 32]⟩ ++ Gb)] := by
      rw [E1.out, E2.out, E3.out]
      show [strV (M.headS p), strV (M.needsW ++ M.joinS [44, 32] (p.needs.map (M.printedS [32, 124, 32]))), strV (M.barsW ++ M.printedS [44, 32] p.bars)] = _
      rw [strV_str HH.out, strV_str (show (⟨#[110, 101, 101, 100, 115, 32]⟩ ++ Gn).data.toList = M.needsW ++ M.joinS [44, 32] (p.needs.map (M.printedS [32, 124, 32])) from by rw [cat_toList, HGn.out]; rfl), strV_str (show (⟨#[98, 97, 114, 115, 32]⟩ ++ Gb).data.toList = M.barsW ++ M.printedS [44, 32] p.bars from by rw [cat_toList, HGb.out]; rfl)]
    have e2 : (([M.headS p] ++ needsPart p) ++ barsPart p ++ filesPart p).length = 3 := by rw [E1.out, E2.out, E3.out]; rfl
    rw [e, e2]
    exact hown
  have cJ := join_lib2 _ ⟨#[10]⟩ _ _ Xb hown' (by have := (parts_len p HP.out).2; omega) (parts_len p HP.out).1
  have e0 : (ByteArray.mk #[10]).data.toList = [10] := rfl
  rw [e0, print_is p] at cJ
  refine cJ.mono ?_
  rintro e w9 ⟨rfl, hB9⟩
  go_wp2
  go_ret
  exact ⟨_, rfl, rfl, bt hO.b hB9⟩
set_option maxRecDepth 100000 in
set_option maxHeartbeats 4000000 in
theorem oneForm_yyy {p : M.Pk} {N V : ByteArray} {w : World} {an ab af : Option Addr} {cn cb cf : Nat} (h : OneAt p N V w an ab af cn cb cf) (z1 :  (0 : Int) < (p.needs.length : Int)) (z2 :  (0 : Int) < (p.bars.length : Int)) (z3 :  (0 : Int) < (p.files.length : Int)) : OneDo p N V w an ab af cn cb cf := by
  obtain ⟨HN, HV, hNs, hVs, HP, hn, hb, hf⟩ := h
  unfold OneDo
  obtain ⟨i0, hi0, hz0, hz1, hz2⟩ := info_parts infoStr
  have E1 := needs_yes z1
  have E2 := bars_yes z2
  have E3 := files_yes z3
  obtain ⟨hO, hown⟩ := one_head p N V w an ab af cn cb cf
  obtain ⟨H, hH⟩ : ∃ H : ByteArray, H = ⟨#[112, 97, 99, 107, 97, 103, 101, 32]⟩ ++ N ++ ⟨#[32]⟩ ++ V := ⟨_, rfl⟩
  have HH : Hid (H.data.toList = M.headS p) := by
    show _ = _
    rw [hH, cat_toList, cat_toList, cat_toList, HN.out, HV.out]
    rfl
  have HO : Hid _ := hO
  have HW : Hid _ := hown
  clear hO hown
  go_enter Tryz.func56, Tryz.ntmps56
  go_wp2_with fail
  have hO := HO.out
  have hown := HW.out
  rw [← hH] at hO hown ⊢
  clear HO HW hH
  generalize (w.alloc (.cells #[.string N, .string V, .slice an p.needs.length cn, .slice ab p.bars.length cb, .slice af p.files.length cf] 108)).alloc (.cells #[.string H] 9) = W0 at hO hown ⊢
  have cn := writeGroups_any (.slice an p.needs.length cn) p.needs ⟨#[44, 32]⟩ W0 ((hn.out.keep fun g o _ hg => belowS hO.b hg).wide (Nat.zero_le _) hO.b.size) HP.out.needn HP.out.needs (by decide)
  have ln : (M.joinS [44, 32] (p.needs.map (M.printedS [32, 124, 32]))).length ≤ 1000000000000 := by
    have := needsPart_len p HP.out (M.needsW ++ M.joinS [44, 32] (p.needs.map (M.printedS [32, 124, 32]))) (by rw [E1.out]; simp)
    try simp only [List.length_append] at this
    omega
  obtain ⟨Gn, hGn⟩ : ∃ G : ByteArray, G = ⟨(M.joinS [44, 32] (p.needs.map (M.printedS [32, 124, 32]))).toArray⟩ := ⟨_, rfl⟩
  have hsn : Gn.size ≤ 1000000000000 := by rw [hGn, ← len_data]; exact ln
  have HGn : Hid (Gn.data.toList = M.joinS [44, 32] (p.needs.map (M.printedS [32, 124, 32]))) := by show _ = _; rw [hGn]
  rw [← hGn] at cn
  clear hGn ln
  refine cn.mono ?_
  rintro e Wn ⟨rfl, hBn⟩
  clear cn
  replace hO := hO.below hBn
  replace hown := own_below hown hBn
  have d2n := hO.c2
  have d3n := hO.c3
  have d4n := hO.c4
  have hltn := hO.lt
  go_wp2_with (at_builtin; refine wpList_append_own _ rfl _ _ 43 rfl (w.heap.size + 1) 9 i0 (.string ⟨#[]⟩) 1 16 Tryz.underlying43 hi0 hz0 hz1 hz2 rfl (by decide) _ _ _ rfl (hown.alloc _) ⟨Wn.heap.size, 0, none⟩ 1 1 [.string (⟨#[110, 101, 101, 100, 115, 32]⟩ ++ Gn)] rfl rfl ?c1 ?c2 ?c3 ?c4 ?c5 ?_)
  case c1 => exact one_new _ _ _
  case c2 => intro u hu; simp at hu; subst hu; rfl
  case c3 => unfold maxLen; omega
  case c4 => omega
  case c5 => simp; omega
  intro vn Xn hownn hgrown _
  replace hO := hO.push hown hgrown
  replace hown := hownn
  clear hownn hgrown d2n d3n d4n hBn hltn
  obtain ⟨aln, cln, eln⟩ := own_form hown
  subst eln
  have e2n := hO.c2
  have e3n := hO.c3
  have e4n := hO.c4
  go_wp2_with fail
  have cb := writeChoices_any (.slice ab p.bars.length cb) p.bars ⟨#[44, 32]⟩ Xn ((hb.out.keep fun g o _ hg => belowS hO.b hg).wide (Nat.zero_le _) hO.b.size) HP.out.bars (by decide)
  have lb : (M.printedS [44, 32] p.bars).length ≤ 1000000000000 := by
    have := barsPart_len p HP.out (M.barsW ++ M.printedS [44, 32] p.bars) (by rw [E2.out]; simp)
    try simp only [List.length_append] at this
    omega
  obtain ⟨Gb, hGb⟩ : ∃ G : ByteArray, G = ⟨(M.printedS [44, 32] p.bars).toArray⟩ := ⟨_, rfl⟩
  have hsb : Gb.size ≤ 1000000000000 := by rw [hGb, ← len_data]; exact lb
  have HGb : Hid (Gb.data.toList = M.printedS [44, 32] p.bars) := by show _ = _; rw [hGb]
  rw [← hGb] at cb
  clear hGb lb
  refine cb.mono ?_
  rintro e Wb ⟨rfl, hBb⟩
  clear cb
  replace hO := hO.below hBb
  replace hown := own_below hown hBb
  have d2b := hO.c2
  have d3b := hO.c3
  have d4b := hO.c4
  have hltb := hO.lt
  go_wp2_with (at_builtin; refine wpList_append_own _ rfl _ _ 43 rfl (w.heap.size + 1) 9 i0 (.string ⟨#[]⟩) 1 16 Tryz.underlying43 hi0 hz0 hz1 hz2 rfl (by decide) _ _ _ rfl (hown.alloc _) ⟨Wb.heap.size, 0, none⟩ 1 1 [.string (⟨#[98, 97, 114, 115, 32]⟩ ++ Gb)] rfl rfl ?c1 ?c2 ?c3 ?c4 ?c5 ?_)
  case c1 => exact one_new _ _ _
  case c2 => intro u hu; simp at hu; subst hu; rfl
  case c3 => unfold maxLen; omega
  case c4 => omega
  case c5 => simp; omega
  intro vb Xb hownb hgrowb _
  replace hO := hO.push hown hgrowb
  replace hown := hownb
  clear hownb hgrowb d2b d3b d4b hBb hltb
  obtain ⟨alb, clb, elb⟩ := own_form hown
  subst elb
  have e2b := hO.c2
  have e3b := hO.c3
  have e4b := hO.c4
  go_wp2_with fail
  have cf := writeFiles_any (.slice af p.files.length cf) p.files ⟨#[10]⟩ Xb ((hf.out.keep fun g o _ hg => belowS hO.b hg).wide (Nat.zero_le _) hO.b.size) HP.out.filen HP.out.files (by decide)
  have lf : (M.joinS [10] (p.files.map flText)).length ≤ 1000000000000 := by
    have := filesPart_len p HP.out (M.joinS [10] (p.files.map flText)) (by rw [E3.out]; simp)
    try simp only [List.length_append] at this
    omega
  obtain ⟨Gf, hGf⟩ : ∃ G : ByteArray, G = ⟨(M.joinS [10] (p.files.map flText)).toArray⟩ := ⟨_, rfl⟩
  have hsf : Gf.size ≤ 1000000000000 := by rw [hGf, ← len_data]; exact lf
  have HGf : Hid (Gf.data.toList = M.joinS [10] (p.files.map flText)) := by show _ = _; rw [hGf]
  rw [← hGf] at cf
  clear hGf lf
  refine cf.mono ?_
  rintro e Wf ⟨rfl, hBf⟩
  clear cf
  replace hO := hO.below hBf
  replace hown := own_below hown hBf
  have d2f := hO.c2
  have d3f := hO.c3
  have d4f := hO.c4
  have hltf := hO.lt
  go_wp2_with (at_builtin; refine wpList_append_own _ rfl _ _ 43 rfl (w.heap.size + 1) 9 i0 (.string ⟨#[]⟩) 1 16 Tryz.underlying43 hi0 hz0 hz1 hz2 rfl (by decide) _ _ _ rfl (hown.alloc _) ⟨Wf.heap.size, 0, none⟩ 1 1 [.string Gf] rfl rfl ?c1 ?c2 ?c3 ?c4 ?c5 ?_)
  case c1 => exact one_new _ _ _
  case c2 => intro u hu; simp at hu; subst hu; rfl
  case c3 => unfold maxLen; omega
  case c4 => omega
  case c5 => simp; omega
  intro vf Xf hownf hgrowf _
  replace hO := hO.push hown hgrowf
  replace hown := hownf
  clear hownf hgrowf d2f d3f d4f hBf hltf
  obtain ⟨alf, clf, elf⟩ := own_form hown
  subst elf
  have e2f := hO.c2
  have e3f := hO.c3
  have e4f := hO.c4
  go_wp2_with fail
  have hown' : Xf.ownsRow (w.heap.size + 1) 9 1 (.slice alf 4 clf) (([M.headS p] ++ needsPart p) ++ barsPart p ++ filesPart p).length ((([M.headS p] ++ needsPart p) ++ barsPart p ++ filesPart p).map strV) := by
    have e : (([M.headS p] ++ needsPart p) ++ barsPart p ++ filesPart p).map strV = [.string H, .string (⟨#[110, 101, 101, 100, 115, 32]⟩ ++ Gn), .string (⟨#[98, 97, 114, 115, 32]⟩ ++ Gb), .string Gf] := by
      rw [E1.out, E2.out, E3.out]
      show [strV (M.headS p), strV (M.needsW ++ M.joinS [44, 32] (p.needs.map (M.printedS [32, 124, 32]))), strV (M.barsW ++ M.printedS [44, 32] p.bars), strV (M.joinS [10] (p.files.map flText))] = _
      rw [strV_str HH.out, strV_str (show (⟨#[110, 101, 101, 100, 115, 32]⟩ ++ Gn).data.toList = M.needsW ++ M.joinS [44, 32] (p.needs.map (M.printedS [32, 124, 32])) from by rw [cat_toList, HGn.out]; rfl), strV_str (show (⟨#[98, 97, 114, 115, 32]⟩ ++ Gb).data.toList = M.barsW ++ M.printedS [44, 32] p.bars from by rw [cat_toList, HGb.out]; rfl), strV_str HGf.out]
    have e2 : (([M.headS p] ++ needsPart p) ++ barsPart p ++ filesPart p).length = 4 := by rw [E1.out, E2.out, E3.out]; rfl
    rw [e, e2]
    exact hown
  have cJ := join_lib2 _ ⟨#[10]⟩ _ _ Xf hown' (by have := (parts_len p HP.out).2; omega) (parts_len p HP.out).1
  have e0 : (ByteArray.mk #[10]).data.toList = [10] := rfl
  rw [e0, print_is p] at cJ
  refine cJ.mono ?_
  rintro e w9 ⟨rfl, hB9⟩
  go_wp2
  go_ret
  exact ⟨_, rfl, rfl, bt hO.b hB9⟩
theorem oneForm_any (p : M.Pk) (v : Value) (w : World) (hv : PkVal w p v) (hp : ShortP p) :
    Calls Tryz.prog 56 #[v] w fun e w' => ∃ T : ByteArray, e = .returned (.string T) ∧ T.data.toList = M.printS p ∧ Below w.heap.size w w' := by
  obtain ⟨nv, bv, fv, rfl, hn, hb, hf⟩ := hv
  obtain ⟨an, cn, en⟩ := hn.form
  obtain ⟨ab, cb, eb⟩ := hb.form
  obtain ⟨af, cf, ef⟩ := hf.form
  subst en eb ef
  have s1 : (ByteArray.mk p.name.toArray).size ≤ 100000 := by rw [← len_data]; exact Nat.le_trans hp.name (by decide)
  have s2 : (ByteArray.mk p.ver.toArray).size ≤ 100000 := by rw [← len_data]; exact Nat.le_trans hp.ver (by decide)
  show OneDo p ⟨p.name.toArray⟩ ⟨p.ver.toArray⟩ w an ab af cn cb cf
  by_cases z1 : (0 : Int) < (p.needs.length : Int) <;> by_cases z2 : (0 : Int) < (p.bars.length : Int) <;> by_cases z3 : (0 : Int) < (p.files.length : Int)
  · exact oneForm_yyy ⟨rfl, rfl, s1, s2, hp, hn, hb, hf⟩ z1 z2 z3
  · exact oneForm_yyn ⟨rfl, rfl, s1, s2, hp, hn, hb, hf⟩ z1 z2 z3
  · exact oneForm_yny ⟨rfl, rfl, s1, s2, hp, hn, hb, hf⟩ z1 z2 z3
  · exact oneForm_ynn ⟨rfl, rfl, s1, s2, hp, hn, hb, hf⟩ z1 z2 z3
  · exact oneForm_nyy ⟨rfl, rfl, s1, s2, hp, hn, hb, hf⟩ z1 z2 z3
  · exact oneForm_nyn ⟨rfl, rfl, s1, s2, hp, hn, hb, hf⟩ z1 z2 z3
  · exact oneForm_nny ⟨rfl, rfl, s1, s2, hp, hn, hb, hf⟩ z1 z2 z3
  · exact oneForm_nnn ⟨rfl, rfl, s1, s2, hp, hn, hb, hf⟩ z1 z2 z3
end Go.Proofs.YtgnfknjopafngaaGreatDoor
