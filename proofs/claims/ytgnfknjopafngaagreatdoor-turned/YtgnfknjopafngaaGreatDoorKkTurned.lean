import Derived.Test.YtgnfknjopafngaaGreatDoorKkTwo
import Derived.Test.YtgnfknjopafngaaGreatDoorKkar
import Derived.Carry
import Derived.Test.YtgnfknjopafngaaGreatDoorKkaq
namespace Go.Proofs.YtgnfknjopafngaaGreatDoor
open Go.RowKit Go.Maps
set_option maxRecDepth 100000 in
set_option maxHeartbeats 16000000 in
theorem turned_law (sectors : Int) (tv : Value) (texts : List ByteArray) (nn : Int) (w : World) (hR : Ready w) (ht : TxtsIn w tv texts) (t1 : texts.length ≤ 1000000000000000000) (t2 : ∀ t ∈ texts, t.size ≤ 1000000000000000000) (g3 : -9223372036854775808 ≤ nn) (g4 : nn ≤ 9223372036854775807) :
    Calls Tryz.prog 9 #[.int .i64 sectors, tv, .int .i64 nn] w fun e w' => e = .returned (.bool true) ∧ Below w.heap.size w w' := by
  have cS1 := ksmall_any tv texts w ht t1 t2
  obtain ⟨at', ct, et⟩ := ht.form
  subst et
  have HT : Hid (TxtsIn w (.slice at' texts.length ct) texts) := ht
  have HR : Hid (Ready w) := hR
  clear ht hR t1 t2
  cases hs1 : smallB texts with
  | false =>
    rw [hs1] at cS1
    go_enter Tryz.func9, Tryz.ntmps9
    go_wp2_with fail
    refine cS1.mono ?_
    rintro e w1 ⟨rfl, hB1⟩
    go_wp2
    go_ret
    exact ⟨rfl, hB1⟩
  | true =>
    rw [hs1] at cS1
    obtain ⟨v1, v2⟩ := small_sz hs1
    by_cases hl0 : texts.length = 0
    · have hl1 : ((texts.length : Int) == 0) = true := by simp [hl0]
      have hl2 : (texts.length : Int) = 0 := by omega
      clear hl0 v1
      go_enter Tryz.func9, Tryz.ntmps9
      go_wp2_with fail
      refine cS1.mono ?_
      rintro e w1 ⟨rfl, hB1⟩
      go_wp2
      go_ret
      exact ⟨rfl, hB1⟩
    · have hl1 : ((texts.length : Int) == 0) = false := by simp [hl0]
      have hl2 : ¬ ((texts.length : Int) = 0) := by omega
      have hpos : 0 < texts.length := by omega
      have HVz : Hid (∀ t ∈ texts, t.size ≤ 8192) := fun t h => Nat.le_trans (v2 t h) (by decide)
      obtain ⟨g, off, eat, hg, hcap, _⟩ := HT.out.cellAt (by omega)
      subst eat
      have cA := fun wx (hb : Below w.heap.size w wx) => anchored_any wx (HR.out.below hb)
      have cN := fun wx (hr : Ready wx) => f_new sectors wx hr
      have cK := fun wx => kpick_any nn texts.length wx (by omega) (by omega) g3 g4
      generalize hn : sectorsN sectors = n at cN
      clear hs1 v2 hn hl0 g3 g4
      go_enter Tryz.func9, Tryz.ntmps9
      go_wp2_with fail
      refine cS1.mono ?_
      rintro e w1 ⟨rfl, hB1⟩
      clear cS1
      go_wp2_with fail
      refine (cA _ hB1).mono ?_
      rintro e w3 ⟨rfl, hB4⟩
      have hB5 := bt hB1 hB4
      clear hB1 hB4 cA
      have cN1 := cN w3 (HR.out.below hB5)
      go_wp2_with fail
      refine cN1.mono ?_
      rintro e w4 ⟨x, F, rfl, hX, hFl, hB6⟩
      have hbF : (w4.alloc (.cells okC 23)).heap[w4.heap.size]? = some (.cells okC 23 (0, 0)) := heap_alloc_new w4 _
      have hBA : Below w4.heap.size w4 (w4.alloc (.cells okC 23)) := (Below.refl _ w4).alloc (Nat.le_refl _) _
      have hXA := hX.below hBA
      have cN2 := cN _ hXA.ready
      have HXA : Hid (XF (w4.alloc (.cells okC 23)) F x n []) := hXA
      have HFl : Hid (∀ j, F j → w3.heap.size ≤ j) := hFl
      have HbF : Hid ((w4.alloc (.cells okC 23)).heap[w4.heap.size]? = some (.cells okC 23 (0, 0))) := hbF
      have HBA : Hid (Below w3.heap.size w3 (w4.alloc (.cells okC 23))) := bt hB6 hBA
      have hs34 := hB6.size
      clear cN1 cN hX hXA hFl hbF hBA hB6
      go_wp2_with fail
      refine cN2.mono ?_
      rintro e w5 ⟨y, G, rfl, hY, hGl, hB7⟩
      clear cN2
      have hsz4 : (w4.alloc (.cells okC 23)).heap.size = w4.heap.size + 1 := by simp
      obtain ⟨A5, hA5⟩ : ∃ A5, A5 = w5.alloc (.cells okC 23) := ⟨_, rfl⟩
      have hBA5 : Below w5.heap.size w5 A5 := by rw [hA5]; exact (Below.refl _ w5).alloc (Nat.le_refl _) _
      have HA5 : Hid (A5 = w5.alloc (.cells okC 23)) := hA5
      have hb5 : A5.heap[w5.heap.size]? = some (.cells okC 23 (0, 0)) := by rw [hA5]; exact heap_alloc_new w5 _
      have hbF5 : A5.heap[w4.heap.size]? = some (.cells okC 23 (0, 0)) := ((bt hB7 hBA5).block _ (Array.getElem?_eq_some_iff.1 HbF.out).1).trans HbF.out
      have hX5 : XF A5 F x n [] := HXA.out.below (bt hB7 hBA5)
      have hY5 : XF A5 G y n [] := hY.below hBA5
      have hdis : ∀ j, G j → ¬ F j := fun j hj hf => by have := hGl j hj; have := HXA.out.lt hf; omega
      have hB35 : Below w3.heap.size w3 A5 := HBA.out.trans ((bt hB7 hBA5).mono HBA.out.size)
      have HBF : Hid (A5.heap[w4.heap.size]? = some (.cells okC 23 (0, 0)) ∧ A5.heap[w5.heap.size]? = some (.cells okC 23 (0, 0))) := ⟨hbF5, hb5⟩
      obtain ⟨z0, z1, z2, z3, zf⟩ := okC_cell hbF5
      obtain ⟨y0, y1, y2, y3, yf⟩ := okC_cell hb5
      have HX5 : Hid (XF A5 F x n []) := hX5
      have HY5 : Hid (XF A5 G y n []) := hY5
      have HGl : Hid (∀ j, G j → w3.heap.size ≤ j) := fun j hj => by have := hGl j hj; have := HBA.out.size; omega
      have HDis : Hid (∀ j, G j → ¬ F j) := hdis
      have HB35 : Hid (Below w3.heap.size w3 A5) := hB35
      have hne45 : w4.heap.size ≠ w5.heap.size := by have := hB7.size; omega
      have hs45 : w4.heap.size ≤ w5.heap.size := by have := hB7.size; omega
      have hhi4 : 1 < w4.heap.size := by have := (HR.out.below hB5).lt; omega
      have hhi5 : 1 < w5.heap.size := by have := hB7.size; omega
      clear hX5 hY5 hGl hdis hB35 hbF5 hb5 hY hBA5 hB7 hA5 HXA HbF HBA
      rw [HA5.out] at z0 z1 z2 z3 y0 y1 y2 y3
      go_wp2_with fail
      refine (cK _).mono ?_
      rintro e w5' ⟨k, hk, rfl, e5⟩
      obtain rfl : w5' = A5 := e5.trans HA5.out.symm
      clear e5 cK z0 z1 z2 z3 zf y0 y1 y2 y3 yf
      have hTx : TxtsIn w5' (.slice (some ⟨g, off, none⟩) texts.length ct) texts := HT.out.below (bt hB5 HB35.out)
      obtain ⟨a1, c1, w6, hr1, hB6, a2, c2, w7, hr2, hst, hB7⟩ := turn_two 43 hTx rfl hk (by omega)
      have hsl1 := ss_behind w5' g off texts.length ct k hk hcap
      have hsl2 := ss_ahead w6 g off texts.length ct k (by omega) hcap
      have HR1 : Hid ((Builtin.append_ #[43, 43] 43 #[.slice none 0 0, .slice (some ⟨g, off + k, none⟩) (texts.length - k) (ct - k)]).run Tryz.prog w5' = .ok (.slice a1 (texts.length - k) c1) w6) := hr1
      have HR2 : Hid ((Builtin.append_ #[43, 43] 43 #[.slice a1 (texts.length - k) c1, .slice (some ⟨g, off, none⟩) k ct]).run Tryz.prog w6 = .ok (.slice a2 texts.length c2) w7) := hr2
      have HSt : Hid (StrsIn w7 (.slice a2 texts.length c2) (texts.drop k ++ texts.take k)) := hst
      have hB57 : Below w5'.heap.size w5' w7 := hB7
      have hkn : (k : Int) < (texts.length : Int) := by omega
      clear hr1 hr2 hst hTx
      go_wp2_with (at_builtin; first
        | refine wpList_append_eq rfl (.const (.slice none 0 0)) (.tmp 63) 43 rfl _ _ _ _ rfl rfl HR1.out ?_
        | refine wpList_append_eq rfl (.tmp 65) (.tmp 68) 43 rfl _ _ _ _ rfl rfl HR2.out ?_)
      have hT7 : Tw w7 w3.heap.size w4.heap.size w5.heap.size x y n F G [] [] M.okFa M.okFa :=
        (Tw.mk HX5.out HY5.out HDis.out HBF.out.1 HBF.out.2 hne45 hhi4 hhi5 (by omega) (by omega) HFl.out HGl.out).below hB57
      have hB37 : Below w3.heap.size w3 w7 := HB35.out.trans (hB57.mono HB35.out.size)
      have HTW : Hid (∀ W, Below w3.heap.size w3 W → TxtsIn W (.slice (some ⟨g, off, none⟩) texts.length ct) texts ∧ Below w.heap.size w W) := fun W hb => ⟨HT.out.below (bt hB5 hb), bt hB5 hb⟩
      have hperm : (texts.map fun t => t.data.toList).Perm ((texts.drop k ++ texts.take k).map fun t => t.data.toList) := by
        refine List.Perm.map _ ?_
        have h1 : (texts.take k ++ texts.drop k).Perm (texts.drop k ++ texts.take k) := List.perm_append_comm
        rwa [List.take_append_drop] at h1
      have RP := rotP hperm (24 * ((n : Int) - 8))
      rw [List.length_map] at RP
      have HU : Hid (∀ t ∈ texts.drop k ++ texts.take k, t.size ≤ 8192) := fun t h => HVz.out t (by
        rcases List.mem_append.1 h with h | h
        · exact List.mem_of_mem_drop h
        · exact List.mem_of_mem_take h)
      have hUl : (texts.drop k ++ texts.take k).length ≤ 10000 := by simp; omega
      have cP1 := x_plan (hT7.x.at hT7.FB) (.slice (some ⟨g, off, none⟩) texts.length ct) texts (HTW.out _ hB37).1 (by omega) HVz.out
      have cP2 := fun W (hx : Tw W w3.heap.size w4.heap.size w5.heap.size x y n F G [] [] (faultP (M.plannedS [] (texts.map fun t => t.data.toList))) M.okFa) (hs : StrsIn W (.slice a2 texts.length c2) (texts.drop k ++ texts.take k)) => x_plan (hx.y.at hx.GB) (.slice a2 texts.length c2) (texts.drop k ++ texts.take k) hs.txts hUl HU.out
      have cI1 := fun W (hx : Tw W w3.heap.size w4.heap.size w5.heap.size x y n F G [] [] (faultP (M.plannedS [] (texts.map fun t => t.data.toList))) (faultP (M.plannedS [] ((texts.drop k ++ texts.take k).map fun t => t.data.toList)))) (ht : TxtsIn W (.slice (some ⟨g, off, none⟩) texts.length ct) texts) => f_install hx.x (.slice (some ⟨g, off, none⟩) texts.length ct) texts ht (by omega) HVz.out
      have cI2 := fun W F' l' (hx : Tw W w3.heap.size w4.heap.size w5.heap.size x y n F' G l' [] (faultP (M.plannedS [] (texts.map fun t => t.data.toList))) (faultP (M.plannedS [] ((texts.drop k ++ texts.take k).map fun t => t.data.toList)))) (hs : StrsIn W (.slice a2 texts.length c2) (texts.drop k ++ texts.take k)) => f_install hx.y (.slice a2 texts.length c2) (texts.drop k ++ texts.take k) hs.txts hUl HU.out
      generalize M.plannedS [] (texts.map fun t => t.data.toList) = Rp at RP cP1 cP2 cI1 cI2
      generalize M.plannedS [] ((texts.drop k ++ texts.take k).map fun t => t.data.toList) = Rq at RP cP2 cI1 cI2
      generalize M.installedS [] (texts.map fun t => t.data.toList) (24 * ((n : Int) - 8)) = Ri at RP cI1
      generalize M.installedS [] ((texts.drop k ++ texts.take k).map fun t => t.data.toList) (24 * ((n : Int) - 8)) = Rj at RP cI2
      have HRP : Hid (RotP texts.length Rp Rq Ri Rj) := RP
      have HT7 : Hid (Tw w7 w3.heap.size w4.heap.size w5.heap.size x y n F G [] [] M.okFa M.okFa) := hT7
      have HB37 : Hid (Below w3.heap.size w3 w7) := hB37
      clear hperm RP hT7 hB37 HX5 HY5 HDis HBF HB35 HFl HGl HR HT HA5 hB57 hUl HU
      obtain ⟨jf, hjf⟩ : ∃ jf, jf = w4.heap.size := ⟨_, rfl⟩
      obtain ⟨jg, hjg⟩ : ∃ jg, jg = w5.heap.size := ⟨_, rfl⟩
      rw [← hjf, ← hjg] at HT7 cP2 cI1 cI2
      rw [← hjf, ← hjg]
      clear hhi4 hhi5 hne45 hs34 hsz4 hs45
      clear hjf hjg
      unfold faV at cP1 cP2
      go_wp2_with fail
      refine cP1.mono ?_
      rintro e w8 ⟨a8, c8, rfl, ⟨N8, hs8, hn8⟩, hB8⟩
      obtain ⟨z0, z1, z2, z3, zf⟩ := fC_cell (HT7.out.below hB8).fb
      clear cP1
      go_wp2_with fail
      obtain ⟨hT8, hA8⟩ := (HT7.out.below hB8).setF (faultP Rp)
      obtain ⟨W8, hW8⟩ : ∃ W8, W8 = ((((w8.setCell ⟨jf, 0, none⟩ (.int .i64 (faultP Rp).kind)).setCell ⟨jf, 1, none⟩ (.int .i64 (faultP Rp).which)).setCell ⟨jf, 2, none⟩ (.int .i64 (faultP Rp).line)).setCell ⟨jf, 3, none⟩ (.string ⟨(faultP Rp).name.toArray⟩)) := ⟨_, rfl⟩
      rw [← hW8] at hT8 hA8 ⊢
      have cP3 := cP2 W8 hT8 (hA8.strs _ _ (HSt.out.below hB8))
      have HS8 : Hid (StrsIn W8 (.slice a8 (lenP Rp) c8) N8) := hA8.strs _ _ hs8
      have HSt8 : Hid (StrsIn W8 (.slice a2 texts.length c2) (texts.drop k ++ texts.take k)) := hA8.strs _ _ (HSt.out.below hB8)
      have HB8 : Hid (Below w3.heap.size w3 W8) := (HB37.out.trans (hB8.mono HB37.out.size)).trans hA8.low
      have HT8 : Hid (Tw W8 w3.heap.size jf jg x y n F G [] [] (faultP Rp) M.okFa) := hT8
      have HN8 : Hid (∀ all names, Rp = .inr (all, names) → N8 = names.map fun n : List UInt8 => (⟨n.toArray⟩ : ByteArray)) := hn8
      clear cP2 hT8 hA8 hB8 hs8 hn8 z0 z1 z2 z3 zf HT7 HB37 HSt hW8
      refine cP3.mono ?_
      rintro e w9 ⟨a9, c9, rfl, ⟨N9, hs9, hn9⟩, hB9⟩
      obtain ⟨z0, z1, z2, z3, zf⟩ := fC_cell (HT8.out.below hB9).gb
      clear cP3
      go_wp2_with fail
      obtain ⟨hT9, hA9⟩ := (HT8.out.below hB9).swap.setF (faultP Rq)
      obtain ⟨W9, hW9⟩ : ∃ W9, W9 = ((((w9.setCell ⟨jg, 0, none⟩ (.int .i64 (faultP Rq).kind)).setCell ⟨jg, 1, none⟩ (.int .i64 (faultP Rq).which)).setCell ⟨jg, 2, none⟩ (.int .i64 (faultP Rq).line)).setCell ⟨jg, 3, none⟩ (.string ⟨(faultP Rq).name.toArray⟩)) := ⟨_, rfl⟩
      rw [← hW9] at hT9 hA9 ⊢
      have hS89 : StrsIn W9 (.slice a8 (lenP Rp) c8) N8 := hA9.strs _ _ (HS8.out.below hB9)
      have hS99 : StrsIn W9 (.slice a9 (lenP Rq) c9) N9 := hA9.strs _ _ hs9
      have hNN : N8 = N9 := HRP.out.same (strs_len hS89) (strs_len hS99) HN8.out hn9
      have hlp : lenP Rp ≤ 100000 := by have := HRP.out.most; omega
      have cSa := ksame_any _ _ _ _ W9 hS89 hS99 (by rw [← strs_len hS89]; omega) (by rw [← strs_len hS99, ← HRP.out.lens]; omega)
      rw [decide_eq_true hNN] at cSa
      have HSt9 : Hid (StrsIn W9 (.slice a2 texts.length c2) (texts.drop k ++ texts.take k)) := hA9.strs _ _ (HSt8.out.below hB9)
      have HB9 : Hid (Below w3.heap.size w3 W9) := (HB8.out.trans (hB9.mono HB8.out.size)).trans hA9.low
      have HT9 : Hid (Tw W9 w3.heap.size jf jg x y n F G [] [] (faultP Rp) (faultP Rq)) := hT9.swap
      clear hT9 hA9 hB9 hs9 hn9 z0 z1 z2 z3 zf HT8 HB8 HSt8 hW9 HN8 hNN hS89 hS99 HS8
      refine cSa.mono ?_
      rintro e w10 ⟨rfl, hB10⟩
      have hT10 := HT9.out.below hB10
      have HB10 : Hid (Below w3.heap.size w3 w10) := HB9.out.trans (hB10.mono HB9.out.size)
      have cI3 := cI1 w10 hT10 (HTW.out _ HB10.out).1
      have HT10 : Hid (Tw w10 w3.heap.size jf jg x y n F G [] [] (faultP Rp) (faultP Rq)) := hT10
      have HSt10 : Hid (StrsIn w10 (.slice a2 texts.length c2) (texts.drop k ++ texts.take k)) := HSt9.out.below hB10
      unfold FPost faV at cI3
      clear cSa cI1 hT10 hB10 HT9 HSt9 HB9
      go_wp2_with fail
      refine cI3.mono ?_
      rintro e w11 ⟨rfl, F', hx11, hc11, hf11⟩
      obtain ⟨hT11, hA11⟩ := HT10.out.turnX hx11 hc11 hf11
      have HB11 : Hid (Below w3.heap.size w3 w11) := HB10.out.trans hA11.low
      have HSt11 : Hid (StrsIn w11 (.slice a2 texts.length c2) (texts.drop k ++ texts.take k)) := hA11.strs _ _ HSt10.out
      have HT11 : Hid (Tw w11 w3.heap.size jf jg x y n F' G (afterI [] Ri) [] (faultP Rp) (faultP Rq)) := hT11
      clear cI3 hx11 hc11 hf11 hT11 hA11 HT10 HB10 HSt10
      obtain ⟨A11, hA11⟩ : ∃ A11, A11 = w11.alloc (.cells (fC (faultI Ri)) 23) := ⟨_, rfl⟩
      have hBA11 : Below w11.heap.size w11 A11 := by rw [hA11]; exact (Below.refl _ w11).alloc (Nat.le_refl _) _
      have hh11 : A11.heap[w11.heap.size]? = some (.cells (fC (faultI Ri)) 23 (0, 0)) := by rw [hA11]; exact heap_alloc_new w11 _
      have HA11 : Hid (A11 = w11.alloc (.cells (fC (faultI Ri)) 23)) := hA11
      have hTA := HT11.out.below hBA11
      have cI4 := cI2 A11 F' _ hTA (HSt11.out.below hBA11)
      have HTA : Hid (Tw A11 w3.heap.size jf jg x y n F' G (afterI [] Ri) [] (faultP Rp) (faultP Rq)) := hTA
      have HH11 : Hid (A11.heap[w11.heap.size]? = some (.cells (fC (faultI Ri)) 23 (0, 0))) := hh11
      have HBA : Hid (Below w3.heap.size w3 A11) := HB11.out.trans (hBA11.mono HB11.out.size)
      unfold FPost faV at cI4
      clear hTA hh11 hBA11 hA11 HT11 HSt11 HB11 cI2
      go_wp2_with fail
      rw [show w11.alloc (.cells #[.int .i64 (faultI Ri).kind, .int .i64 (faultI Ri).which, .int .i64 (faultI Ri).line, .string ⟨(faultI Ri).name.toArray⟩] 23) = A11 from HA11.out.symm]
      refine cI4.mono ?_
      rintro e w12 ⟨rfl, G', hx12, hc12, hf12⟩
      obtain ⟨hT12, hA12⟩ := HTA.out.swap.turnX hx12 hc12 hf12
      have hh12 : w12.heap[w11.heap.size]? = some (.cells (fC (faultI Ri)) 23 (0, 0)) := (hc12.block _ (Array.getElem?_eq_some_iff.1 HH11.out).1 (HTA.out.y.flt HH11.out)).trans HH11.out
      have hB12 : Below w3.heap.size w3 w12 := HBA.out.trans hA12.low
      obtain ⟨A12, hA12'⟩ : ∃ A12, A12 = w12.alloc (.cells (fC (faultI Rj)) 23) := ⟨_, rfl⟩
      have hBA12 : Below w12.heap.size w12 A12 := by rw [hA12']; exact (Below.refl _ w12).alloc (Nat.le_refl _) _
      have hj12 : A12.heap[w12.heap.size]? = some (.cells (fC (faultI Rj)) 23 (0, 0)) := by rw [hA12']; exact heap_alloc_new w12 _
      have HA12 : Hid (A12 = w12.alloc (.cells (fC (faultI Rj)) 23)) := hA12'
      have hTA := hT12.swap.below hBA12
      obtain ⟨jh, hjh⟩ : ∃ jh, jh = w11.heap.size := ⟨_, rfl⟩
      obtain ⟨jj, hjj⟩ : ∃ jj, jj = w12.heap.size := ⟨_, rfl⟩
      have HFour : Hid (∀ W, Below A12.heap.size A12 W → Tw W w3.heap.size jf jg x y n F' G' (afterI [] Ri) (afterI [] Rj) (faultP Rp) (faultP Rq) ∧ W.heap[jh]? = some (.cells (fC (faultI Ri)) 23 (0, 0)) ∧ W.heap[jj]? = some (.cells (fC (faultI Rj)) 23 (0, 0)) ∧ Below w.heap.size w W) := fun W hb => by
        have h1 := bt hBA12 hb
        refine ⟨hTA.below hb, ?_, ?_, ?_⟩
        · rw [hjh]
          exact (h1.block _ (Array.getElem?_eq_some_iff.1 hh12).1).trans hh12
        · rw [hjj]
          exact (hb.block _ (Array.getElem?_eq_some_iff.1 hj12).1).trans hj12
        · exact (HTW.out _ (hB12.trans (h1.mono hB12.size))).2
      have cK1 := f_packs hTA.x
      have cK2 := fun W (hb : Below A12.heap.size A12 W) => f_packs (HFour.out W hb).1.y
      have h600 := hTA.x.tog.2
      have h601 := hTA.y.tog.2
      have HTx : Hid (txsB (afterI [] Ri) = txsB (afterI [] Rj)) := HRP.out.texts
      have HAll : Hid ((afterI [] Ri).length = texts.length * (1 - if (faultI Ri).kind = 0 then 0 else 1)) := HRP.out.all
      have HKP : Hid ((faultP Rp).kind = 0 ↔ (faultP Rq).kind = 0) := HRP.out.plan
      have HKI : Hid ((faultI Ri).kind = 0 ↔ (faultI Rj).kind = 0) := HRP.out.inst
      generalize afterI [] Ri = L1 at cK1 cK2 h600 HTx HAll HFour
      generalize afterI [] Rj = L2 at cK2 h601 HTx HFour
      clear cI4 hx12 hc12 hf12 hT12 hA12 HTA HBA hh12 hB12 hBA12 hj12 hTA HH11 HRP HA11
      rw [← hjh]
      go_wp2_with fail
      rw [← hjj, show w12.alloc (.cells #[.int .i64 (faultI Rj).kind, .int .i64 (faultI Rj).which, .int .i64 (faultI Rj).line, .string ⟨(faultI Rj).name.toArray⟩] 23) = A12 from HA12.out.symm]
      refine cK1.mono ?_
      rintro e w13 ⟨a13, c13, rfl, hs13, hB13⟩
      go_wp2_with fail
      refine (cK2 _ hB13).mono ?_
      rintro e w14 ⟨a14, c14, rfl, hs14, hB14⟩
      have cS2 := ksame_any _ _ _ _ w14 (hs13.below hB14) hs14 (by rw [txsB_len]; omega) (by rw [txsB_len]; omega)
      rw [decide_eq_true HTx.out] at cS2
      have HS13 := bt hB13 hB14
      clear hs13 hs14 hB13 hB14 cK1 cK2
      go_wp2_with fail
      refine cS2.mono ?_
      rintro e w15 ⟨rfl, hB15⟩
      obtain ⟨hT15, hh15, hj15, hB16⟩ := HFour.out w15 (bt HS13 hB15)
      obtain ⟨p0, -, -, -, pf⟩ := fC_cell hT15.fb
      obtain ⟨q0, -, -, -, qf⟩ := fC_cell hT15.gb
      obtain ⟨r0, -, -, -, rf⟩ := fC_cell hh15
      obtain ⟨t0, -, -, -, tf⟩ := fC_cell hj15
      clear cS2 hT15 hh15 hj15 HFour HS13 hB15
      subst hjh hjj
      generalize (faultP Rp).kind = fk at p0 HKP
      generalize (faultP Rq).kind = gk at q0 HKP
      generalize (faultI Ri).kind = hk1 at r0 HKI HAll
      generalize (faultI Rj).kind = ik at t0 HKI
      have HB16 : Hid (Below w.heap.size w w15) := hB16
      have hf : (fk = 0 ∧ gk = 0) ∨ (fk ≠ 0 ∧ gk ≠ 0) := by have := HKP.out; omega
      have hi : (hk1 = 0 ∧ ik = 0 ∧ L1.length = texts.length) ∨ (hk1 ≠ 0 ∧ ik ≠ 0 ∧ L1.length = 0) := by
        have h1 := HKI.out
        have h2 := HAll.out
        by_cases h : hk1 = 0
        · exact .inl ⟨h, h1.1 h, by rw [h2, if_pos h]; omega⟩
        · exact .inr ⟨h, fun e => h (h1.2 e), by rw [h2, if_neg h]; omega⟩
      clear HKP HKI HAll HTx hB16
      rcases hf with ⟨rfl, rfl⟩ | ⟨f1, f2⟩
      · rcases hi with ⟨rfl, rfl, hL⟩ | ⟨i1, i2, hL⟩
        · rw [hL]
          go_wp2_with fail
          refine (ksign_any 0 w15).mono ?_
          rintro e w16 ⟨rfl, e16⟩
          rw [if_pos rfl]
          obtain rfl := e16
          go_wp2
          go_ret
          exact ⟨by simp, HB16.out⟩
        · have g1 : ¬ ((hk1 : Int) = 0) := by omega
          have g2 : ((hk1 : Int) == 0) = false := by simp; omega
          have g3 : ¬ ((ik : Int) = 0) := by omega
          have g4 : ((ik : Int) == 0) = false := by simp; omega
          rw [hL]
          go_wp2_with fail
          refine (ksign_any hk1 w15).mono ?_
          rintro e w16 ⟨rfl, e16⟩
          rw [if_neg i1]
          obtain rfl := e16
          go_wp2
          go_ret
          exact ⟨by simp, HB16.out⟩
      · have e1 : ¬ ((fk : Int) = 0) := by omega
        have e2 : ((fk : Int) == 0) = false := by simp; omega
        have e3 : ¬ ((gk : Int) = 0) := by omega
        have e4 : ((gk : Int) == 0) = false := by simp; omega
        rcases hi with ⟨rfl, rfl, hL⟩ | ⟨i1, i2, hL⟩
        · rw [hL]
          go_wp2_with fail
          refine (ksign_any 0 w15).mono ?_
          rintro e w16 ⟨rfl, e16⟩
          rw [if_pos rfl]
          obtain rfl := e16
          go_wp2
          go_ret
          exact ⟨by simp, HB16.out⟩
        · have g1 : ¬ ((hk1 : Int) = 0) := by omega
          have g2 : ((hk1 : Int) == 0) = false := by simp; omega
          have g3 : ¬ ((ik : Int) = 0) := by omega
          have g4 : ((ik : Int) == 0) = false := by simp; omega
          rw [hL]
          go_wp2_with fail
          refine (ksign_any hk1 w15).mono ?_
          rintro e w16 ⟨rfl, e16⟩
          rw [if_neg i1]
          obtain rfl := e16
          go_wp2
          go_ret
          exact ⟨by simp, HB16.out⟩
end Go.Proofs.YtgnfknjopafngaaGreatDoor
namespace Go.Proofs.YtgnfknjopafngaaGreatDoor
namespace TurnedProof
theorem fact1 : (Rows.turnedRow.inPlace == Tryz.prog.inPlace 9) = true := by kernel_rfl
theorem fact2 : (Rows.turnedRow.unfollowed == Tryz.prog.unfollowed 9) = true := by kernel_rfl
theorem fact3 : (Rows.turnedRow.recurses == Tryz.prog.recurses 9) = true := by kernel_rfl
theorem fact4 : (Rows.turnedRow.named == Tryz.prog.varsNamed 9) = true := by kernel_rfl
theorem closed : joinedFacts Tryz.prog 9 Tryz.f9 Rows.turnedSpec Rows.turnedRow = true := by
  unfold joinedFacts
  rw [fact1, fact2, fact3, fact4]
  kernel_rfl
end TurnedProof
end Go.Proofs.YtgnfknjopafngaaGreatDoor
namespace Go.Proofs.YtgnfknjopafngaaGreatDoor
namespace TurnedProof
open Go.ChangeShapes Go.WideShapes Go.ChangeAt Go.RowKit
open LaidKit
set_option maxRecDepth 100000 in
theorem lifted (os : Os) (started : os.Started) (H : Type) (enc : TypeId × Value → H) :
    ReturnsInHanded {} Tryz.checked os 9 .any (fun w args => (Rows.turnedSpec.pre enc Tryz.prog Tryz.f9 Rows.turnedRow.domain false w args ∧ laidMetH Tryz.prog Rows.turnedRow.laid w) ∧ sizedMet enc Tryz.prog Tryz.f9 (OpenSpec.ofChange Rows.turnedSpec) false w args)
      (Rows.turnedSpec.post enc Tryz.prog Tryz.f9 false true false false) := by
  refine returnsInHanded_of_calls (C := Tryz.checked) own started (by kernel_rfl)
    (ChangeSpec.witness_shaped (enc := enc) (C := Tryz.checked) (os := os) (X := fun w _ => laidMetH Tryz.prog Rows.turnedRow.laid w) false ((witH (World.holding Tryz.prog os ⟨#[], #[], []⟩)).layVars Tryz.prog dataL) #[.int .i64 0, .slice none 0 0, .int .i64 0] 8 (wit_os os)
      (World.shaped_of_ZipB (by kernel_rfl) (by kernel_rfl)) (by kernel_rfl) (by kernel_rfl) (by kernel_rfl) (wit_met os _)) ?_
  intro w0 tape inp _ hsh _ hok hpre _
  obtain ⟨_, _, _, fn', hfn', _, _, _, _, hval0'⟩ := hok
  obtain rfl : fn' = Tryz.f9 := Option.some.inj (hfn'.symm.trans Tryz.func9)
  obtain ⟨⟨⟨ds, gs, before, hw, _⟩, hx⟩, hz⟩ := hpre
  have hW := DataW.Whole.of_heap (w' := w0.forCall tape inp) (by rfl) hw
  have hsz := hz.weights hw
  have hL : laidMetH Tryz.prog L (w0.forCall tape inp) := laidMetH.of_heap (by rfl) hx
  have hI := maxLen_int hsh
  suffices hc : Calls Tryz.prog 9 inp.args (w0.forCall tape inp) fun e W' => ∃ v, e = .returned v ∧ Rows.turnedSpec.post enc Tryz.prog Tryz.f9 false true false false (w0.forCall tape inp) inp.args v W' by
    refine hc.mono fun e W' ⟨v, he, hp⟩ => ?_
    subst he
    exact ChangeSpec.post_blind hp
  clear hz hx hw hsh
  revert hval0' hW hsz hL hI
  generalize inp.args = args
  generalize w0.forCall tape inp = W
  intro hval0 hW hsz hL hI
  have hval : ∀ (j : Nat) t v, Tryz.f9.params[j]? = some t → args[j]? = some v → Value.okWide Tryz.prog W .any w0.heap.size t v := hval0
  have hW' := hW
  obtain ⟨p, q, hA0, hV, rfl, _, _⟩ := hW
  have hA : DataW.TrodAll enc Tryz.prog W 0 (fun _ => true) true Tryz.f9.params.toList args.toList ds p := hA0
  rw [Tryz.params9] at hA hval hsz
  obtain ⟨v0, v1, v2, d0, d1, d2, p0, p1, p2, rfl, rfl, rfl, h0, h1, h2⟩ := trodAll_three hA
  obtain ⟨rfl, rfl⟩ := trodVars_none hV
  have h1k := h1
  obtain ⟨n0, rfl, rfl, rfl, hn0⟩ := open_int Tryz.underlying3 (hval 0 3 v0 rfl rfl) h0
  obtain ⟨l1, t1, z1, y1⟩ := open_txts (okWide_slice Tryz.underlying43 (hval 1 43 v1 rfl rfl)) h1 (weights_of hsz (j := 1) rfl rfl)
  obtain ⟨n2, rfl, rfl, rfl, hn2⟩ := open_int Tryz.underlying3 (hval 2 3 v2 rfl rfl) h2
  have hr := reachBytes_lt
  have hE : Ready W := ⟨laid_err hL, hI⟩
  have hlt : ∀ x ∈ p1, x.block < W.heap.size := fun x hx => hW'.lt x (by simpa using hx)
  obtain ⟨b1, b2⟩ := bounds_i64 hn2
  refine (turned_law n0 v1 l1 n2 W hE t1 (by omega) (fun t ht => by have := y1 t ht; omega) b1 b2).mono fun e W' ⟨he, hb'⟩ => ?_
  subst he
  exact ⟨_, rfl, _, _, _, [], _, [], hW', trodAll_mk1 (shut_bool Tryz.underlying4 _), trodAll_mk3 (shut_int Tryz.underlying3 hn0) (Below.trod laidOut (by kernel_rfl) (of_decide_eq_true (by kernel_rfl)) h1k hb' (fun x hx => hlt x hx)) (shut_int Tryz.underlying3 hn2), rfl, hb'.frame _, fun h => by cases h⟩
theorem said : Rows.TurnedSaid :=
  OpenClaim.holds_of_wide 9 Tryz.f9 rfl rfl rfl rfl rfl rfl rfl ⟨rfl, rfl, rfl, rfl, rfl⟩ rfl rfl rfl rfl rfl (by kernel_rfl) Tryz.func9 closed
    (of_decide_eq_true (by kernel_rfl)) (by unfold Func.isWrapper; first | (rw [if_pos (by decide +kernel)]; kernel_rfl) | (rw [if_neg (by decide +kernel)]; exact ⟨rfl, rfl⟩))
    (fun os started H enc _ => lifted os started H enc)
theorem plain (f : FuncId) (fn : Func) (hf : Tryz.pinned.checked.prog.funcNamed "parcels/parcelskeep.Turned" = some f) (hfn : Tryz.pinned.checked.prog.funcs[f]? = some fn) :
    true = Tryz.pinned.checked.prog.looks [] ∧ ∀ (j : Nat) t, fn.params[j]? = some t → Tryz.pinned.checked.prog.wantsStandIn t = false := by
  obtain rfl : f = 9 := Option.some.inj ((show Tryz.prog.funcNamed "parcels/parcelskeep.Turned" = some 9 by kernel_rfl).symm.trans hf) |>.symm
  obtain rfl : fn = Tryz.f9 := (Option.some.inj (Tryz.func9.symm.trans hfn)).symm
  refine ⟨by kernel_rfl, fun j t ht => ?_⟩
  rw [Tryz.params9] at ht
  have hm : t ∈ [3, 43, 3] := by simpa using Array.mem_of_getElem? ht
  rcases List.mem_cons.1 hm with rfl | hm
  · exact (show Tryz.prog.wantsStandIn 3 = false by kernel_rfl)
  · rcases List.mem_cons.1 hm with rfl | hm
    · exact (show Tryz.prog.wantsStandIn 43 = false by kernel_rfl)
    · obtain rfl : t = 3 := by simpa using hm
      exact (show Tryz.prog.wantsStandIn 3 = false by kernel_rfl)
end TurnedProof
theorem turned_card : Rows.TurnedCardSaid :=
  Claim7.holds_tied_plain_at .later [] _ _ _ _ TurnedProof.said (fun _ h => by cases h) (by kernel_rfl) (fun _ h => by cases h) turned_row_tie rfl ⟨rfl, rfl⟩ (by kernel_rfl) rfl TurnedProof.plain (by kernel_rfl)
end Go.Proofs.YtgnfknjopafngaaGreatDoor
