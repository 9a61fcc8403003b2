import Derived.Test.YtgnfknjopafngaaGreatDoorKkaq
import Derived.Test.YtgnfknjopafngaaGreatDoorKkar
import Derived.Carry
namespace Go.Proofs.YtgnfknjopafngaaGreatDoor
open Go.RowKit Go.Maps
theorem setCell_id {w : World} {b i : Nat} {cs : Array Value} {t : TypeId} {f : Nat × Nat} {v : Value} (h : w.heap[b]? = some (.cells cs t f)) (hv : cs[i]? = some v) : w.setCell ⟨b, i, none⟩ v = w := by
  have e : (w.setCell ⟨b, i, none⟩ v).heap = w.heap := by
    apply Array.ext_getElem?
    intro j
    by_cases hj : j = b
    · subst hj
      have hc : cs.setIfInBounds i v = cs := by
        apply Array.ext_getElem?
        intro k
        rw [Array.getElem?_setIfInBounds]
        split
        · rename_i e
          subst e
          split
          · exact hv.symm
          · rename_i hn
            rw [Array.getElem?_eq_none (by omega)]
        · rfl
      simp [World.setCell, Array.getElem?_modify, h, hc]
    · exact Below.heap_setCell _ _ _ _ hj
  show { w with heap := (w.setCell ⟨b, i, none⟩ v).heap } = w
  rw [e]
theorem readAll_at : ∀ (ts : List (List UInt8)) (i : Nat) (acc l : List M.Pk), M.readAllS ts i acc = .inr l → ∃ fr, l = acc ++ fr ∧ fr.length = ts.length ∧ ∀ j (h : j < ts.length) (h' : j < fr.length), M.readS ts[j] = .inr fr[j]
  | [], i, acc, l, h => by
    cases h
    exact ⟨[], by simp, rfl, fun j h => by simp at h⟩
  | t :: ts, i, acc, l, h => by
    unfold M.readAllS at h
    split at h
    · cases h
    · rename_i p hp
      obtain ⟨fr, rfl, e2, e3⟩ := readAll_at ts _ _ _ h
      refine ⟨p :: fr, by simp, by simp [e2], fun j hj hj' => ?_⟩
      cases j with
      | zero => exact hp
      | succ j => exact e3 j (by simpa using hj) (by simpa using hj')
set_option maxRecDepth 100000 in
set_option maxHeartbeats 16000000 in
theorem back_law (sectors : Int) (fv tv : Value) (first then_ : List ByteArray) (w : World) (hR : Ready w) (hf : TxtsIn w fv first) (ht : TxtsIn w tv then_) (f1 : first.length ≤ 1000000000000000000) (f2 : ∀ t ∈ first, t.size ≤ 1000000000000000000) (t1 : then_.length ≤ 1000000000000000000) (t2 : ∀ t ∈ then_, t.size ≤ 1000000000000000000) :
    Calls Tryz.prog 7 #[.int .i64 sectors, fv, tv] w fun e w' => e = .returned (.bool true) ∧ Below w.heap.size w w' := by
  have cS1 := ksmall_any fv first w hf f1 f2
  have cS2 := fun wx (hb : Below w.heap.size w wx) => ksmall_any tv then_ wx (ht.below hb) t1 t2
  obtain ⟨af, cf, ef⟩ := hf.form
  obtain ⟨at', ct, et⟩ := ht.form
  subst ef et
  have HF : Hid (TxtsIn w (.slice af first.length cf) first) := hf
  have HT : Hid (TxtsIn w (.slice at' then_.length ct) then_) := ht
  have HR : Hid (Ready w) := hR
  clear hf ht hR f1 f2 t1 t2
  cases hs1 : smallB first with
  | false =>
    rw [hs1] at cS1
    go_enter Tryz.func7, Tryz.ntmps7
    go_wp2_with fail
    refine cS1.mono ?_
    rintro e w1 ⟨rfl, hB1⟩
    go_wp2_with fail
    refine (cS2 _ hB1).mono ?_
    rintro e w2 ⟨rfl, hB2⟩
    have hB3 := bt hB1 hB2
    go_wp2
    go_ret
    exact ⟨rfl, hB3⟩
  | true =>
    rw [hs1] at cS1
    cases hs2 : smallB then_ with
    | false =>
      rw [hs2] at cS2
      go_enter Tryz.func7, Tryz.ntmps7
      go_wp2_with fail
      refine cS1.mono ?_
      rintro e w1 ⟨rfl, hB1⟩
      go_wp2_with fail
      refine (cS2 _ hB1).mono ?_
      rintro e w2 ⟨rfl, hB2⟩
      have hB3 := bt hB1 hB2
      go_wp2
      go_ret
      exact ⟨rfl, hB3⟩
    | true =>
      rw [hs2] at cS2
      obtain ⟨u1, u2⟩ := small_sz hs1
      obtain ⟨v1, v2⟩ := small_sz hs2
      have HU : Hid (∀ t ∈ first, t.size ≤ 8192) := fun t h => Nat.le_trans (u2 t h) (by decide)
      have HVz : Hid (∀ t ∈ then_, t.size ≤ 8192) := fun t h => Nat.le_trans (v2 t h) (by decide)
      have cA := fun wx (hb : Below w.heap.size w wx) => anchored_any wx (HR.out.below hb)
      have cN := fun wx (hb : Below w.heap.size w wx) => x_new sectors wx (HR.out.below hb)
      generalize hn : sectorsN sectors = n at cN
      clear hs1 hs2 u2 v2 hn
      go_enter Tryz.func7, Tryz.ntmps7
      go_wp2_with fail
      refine cS1.mono ?_
      rintro e w1 ⟨rfl, hB1⟩
      go_wp2_with fail
      refine (cS2 _ hB1).mono ?_
      rintro e w2 ⟨rfl, hB2⟩
      have hB3 := bt hB1 hB2
      clear cS1 cS2
      go_wp2_with fail
      refine (cA _ hB3).mono ?_
      rintro e w3 ⟨rfl, hB4⟩
      have hB5 := bt hB3 hB4
      clear hB1 hB2 hB3 hB4 cA
      go_wp2_with fail
      refine (cN _ hB5).mono ?_
      rintro e w4 ⟨x, rfl, hX, hB6⟩
      have HX0 : Hid (XAt (w4.alloc (.cells okC 23)) w3.heap.size x n []) := hX.below ((Below.refl _ w4).alloc (Nat.le_refl _) _)
      have hBA : Below w3.heap.size w3 (w4.alloc (.cells okC 23)) := bt hB6 ((Below.refl _ w4).alloc (Nat.le_refl _) _)
      have HLow : Hid (∀ W, Below w3.heap.size w3 W → TxtsIn W (.slice af first.length cf) first ∧ TxtsIn W (.slice at' then_.length ct) then_ ∧ Below w.heap.size w W) := fun W hb => ⟨HF.out.below (bt hB5 hb), HT.out.below (bt hB5 hb), bt hB5 hb⟩
      have cI := (x_install HX0.out hBA.size (.slice af first.length cf) first (HLow.out _ hBA).1 (by omega) HU.out).mono (fun e w' hp => x_uni HX0.out hBA.size hp)
      generalize hl0 : afterI [] (M.installedS [] (first.map fun t => t.data.toList) (24 * ((n : Int) - 8))) = l0 at cI
      generalize faultI (M.installedS [] (first.map fun t => t.data.toList) (24 * ((n : Int) - 8))) = fI at cI
      clear hX cN hl0 hB6
      unfold faV at cI
      generalize (ByteArray.mk fI.name.toArray) = fIn at cI
      go_wp2_with fail
      refine cI.mono ?_
      rintro e w5 ⟨rfl, hX5, hO5⟩
      have hB7 : Below w3.heap.size w3 w5 := hBA.trans hO5.low
      have hs5 : w3.heap.size ≤ w5.heap.size := hB7.size
      have HX5 : Hid (XAt w5 w3.heap.size x n l0) := hX5
      have cP1 := x_packs hX5
      obtain ⟨htog, hl600⟩ := hX5.tog
      clear cI hX5 hO5
      go_wp2_with fail
      refine cP1.mono ?_
      rintro e w6 ⟨a6, c6, rfl, hs6, hB8⟩
      have HX6 : Hid (XAt w6 w3.heap.size x n l0) := HX5.out.below hB8
      have HS6 : Hid (StrsIn w6 (.slice a6 l0.length c6) (txsB l0)) := hs6
      have hB9 : Below w3.heap.size w3 w6 := hB7.trans (hB8.mono hs5)
      clear cP1 hs6
      have cI2 := (x_install HX6.out hB9.size (.slice at' then_.length ct) then_ (HLow.out _ hB9).2.1 (by omega) HVz.out).mono (fun e w' hp => x_uni HX6.out hB9.size hp)
      cases hI : M.installedS l0 (then_.map fun t => t.data.toList) (24 * ((n : Int) - 8)) with
      | inl f =>
        rw [hI] at cI2
        obtain ⟨k1, k2⟩ := inst_kind hI
        obtain ⟨gk, gw, gl, gn⟩ := f
        unfold faV faultI at cI2
        dsimp only at cI2 k1 k2
        generalize (ByteArray.mk gn.toArray) = GN at cI2
        have hpk : ((gk : Int) == 0) = false := by simp; omega
        have hpk2 : ¬ ((gk : Int) = 0) := by omega
        clear hI
        go_wp2_with fail
        refine cI2.mono ?_
        rintro e w7 ⟨rfl, -, hO7⟩
        have HB7 : Hid (Below w3.heap.size w3 w7) := hB9.trans hO7.low
        clear cI2 hO7
        go_wp2
        go_ret
        exact ⟨rfl, (HLow.out _ (HB7.out.trans ((Below.refl _ w7).alloc (Nat.le_refl _) _ |>.mono HB7.out.size))).2.2⟩
      | inr all =>
        rw [hI] at cI2
        obtain ⟨fresh, nms, e1, e2, e3, htg, e5, e6⟩ := M.installed_ok hI htog.back htog.apart
        obtain ⟨fr, e7, e8, e9⟩ := readAll_at _ _ _ _ e2
        rw [List.nil_append] at e7
        subst e7 e3
        rw [List.length_map] at e8
        have HRm : Hid (M.removedS (l0 ++ fresh) (fresh.map M.Pk.name) = .inr l0) := M.removed_fresh htg.apart htog.lack
        have HRd : Hid (∀ j (h : j < then_.length) (h' : j < fresh.length), M.readS then_[j].data.toList = .inr fresh[j]) := fun j h h' => by
          have := e9 j (by rw [List.length_map]; exact h) h'
          rwa [List.getElem_map] at this
        have HTg : Hid (∀ p ∈ fresh, M.Back p) := fun p hp => htg.back p (by simp [hp])
        obtain ⟨i0, hi0, hz0, hz1, hz2⟩ := info_parts infoStr
        obtain ⟨NL, hNL⟩ : ∃ NL : List Value, NL = (fresh.map M.Pk.name).map strV := ⟨_, rfl⟩
        have HNL : Hid (NL = (fresh.map M.Pk.name).map strV) := hNL
        clear hNL
        clear hI e1 e2 e6 e9 htg e5
        unfold faultI afterI at cI2
        dsimp only at cI2
        rw [← okV_fa] at cI2
        go_wp2_with fail
        refine cI2.mono ?_
        rintro e w7 ⟨rfl, hX7, hO7⟩
        have hB7' : Below w3.heap.size w3 w7 := hB9.trans hO7.low
        have HS7 : Hid (StrsIn w7 (.slice a6 l0.length c6) (txsB l0)) := hO7.strs _ _ HS6.out
        have HX7 : Hid (XAt w7 w3.heap.size x n (l0 ++ fresh)) := hX7
        obtain ⟨A7, hA7⟩ : ∃ A7, A7 = w7.alloc (.cells okC 23) := ⟨_, rfl⟩
        have hBA7 : Below w7.heap.size w7 A7 := by rw [hA7]; exact (Below.refl _ w7).alloc (Nat.le_refl _) _
        have HR7 : Hid (A7.heap[w7.heap.size]? = some (.cells okC 23 (0, 0))) := by rw [hA7]; exact heap_alloc_new w7 _
        have HA7 : Hid (A7 = w7.alloc (.cells okC 23)) := hA7
        have hs7 := hB7'.size
        clear cI2 hX7 hO7 hA7
        go_wp2
        rw [← HA7.out]
        go_loopw [15, 16, 17, 18, 19] (fun nv i _ _ _ wr => ∃ k : Nat, i = .int .i64 k ∧ k ≤ then_.length ∧ wr.ownsRow A7.heap.size 9 1 nv k (NL.take k) ∧ Below A7.heap.size A7 wr) (fun _ i _ _ _ _ => then_.length - (intOf i).toNat)
        case atStart => exact ⟨0, rfl, Nat.zero_le _, World.ownsRow_nil _ _ _ _, Below.refl _ _⟩
        case round =>
          obtain ⟨k, rfl, hk, hown, hBr⟩ := hrel
          obtain ⟨an, cn, en⟩ := own_form hown
          subst en
          have hBw : Below w3.heap.size w3 wr := hB7'.trans ((bt hBA7 hBr).mono hs7)
          by_cases hlt : k < then_.length
          · have hkf : k < fresh.length := by omega
            have hp := HRd.out k hlt hkf
            have hbk := HTg.out _ (List.getElem_mem hkf)
            obtain ⟨g, off, eat, hg, hcap, hc⟩ := (HLow.out _ hBw).2.1.cellAt (by omega)
            subst eat
            have p0 : wr.cell? ⟨g, off + k, none⟩ = some (.string then_[k]) := hc k hlt
            have hsz : then_[k].size ≤ 8192 := HVz.out _ (List.getElem_mem hlt)
            have HCl : Hid (NL.take (k + 1) = NL.take k ++ [strV fresh[k].name]) := by
              show _ = _
              rw [HNL.out, List.take_succ_eq_append_getElem (by simpa using hkf), List.getElem_map, List.getElem_map]
            generalize fresh[k] = p at hp hbk HCl
            generalize then_[k] = S at p0 hp hsz
            have hrp : ReadP p := readP hp
            obtain ⟨T, hT⟩ : ∃ T : ByteArray, T = ⟨(M.printS p).toArray⟩ := ⟨_, rfl⟩
            obtain ⟨N, hN⟩ : ∃ N : ByteArray, N = ⟨p.name.toArray⟩ := ⟨_, rfl⟩
            have hTd : T.data.toList = M.printS p := by rw [hT]
            have hNd : N.data.toList = p.name := by rw [hN]
            have cRd : Calls Tryz.prog 13 #[.string S] wr fun e w' => ∃ b c N', e = .returned (.tuple #[.string T, .agg #[.int .i64 (0 : Nat), .int .i64 b, .int .i64 c, .string N']]) ∧ Below wr.heap.size wr w' := (xRead_any S wr hsz (HX7.out.below (bt hBA7 hBr)).ready).mono fun e w' h => by
              obtain ⟨T', N', a, b, c, rfl, h1, _, h2⟩ := h
              obtain ⟨rfl, h3⟩ := h2 p hp
              have e1 : T' = T := bytes_same (h3.trans hTd.symm)
              exact ⟨b, c, N', by rw [e1], h1⟩
            have cNm := fun wx => kname_any T N (p.ver ++ M.needsText p.needs ++ M.barsText p.bars ++ p.files.flatMap M.fileText) wx (by rw [hTd, hNd]; unfold M.printS; simp) (by rw [hNd]; exact hbk.blank) (by have := hrp.len; rw [← len_data, hTd]; omega)
            have HNv : Hid (strV p.name = .string N) := by show _ = _; rw [hN]; rfl
            have HOw : Hid (wr.ownsRow A7.heap.size 9 1 (.slice an k cn) k (NL.take k)) := hown
            have hA7z := hBr.size
            clear hp hbk hrp hT hN hTd hNd hc hown
            go_wp2_with fail
            refine cRd.mono ?_
            rintro e u2 ⟨b2, c2, N2, rfl, hC2⟩
            go_wp2_with fail
            refine (cNm _).mono ?_
            rintro e u3 ⟨rfl, hC3⟩
            have hC4 : Below wr.heap.size wr u3 := bt hC2 (bt ((Below.refl _ u2).alloc (Nat.le_refl _) _) hC3)
            have hown3 := own_below HOw.out hC4
            have hz3 := hC4.size
            clear hC2 hC3 cRd cNm
            go_wp2_with (at_builtin; refine wpList_append_own _ rfl _ _ 43 rfl A7.heap.size 9 i0 (.string ⟨#[]⟩) 1 16 Tryz.underlying43 hi0 hz0 hz1 hz2 rfl (by decide) _ _ _ rfl (hown3.alloc _) ⟨u3.heap.size, 0, none⟩ 1 1 [.string N] rfl rfl ?c1 ?c2 ?c3 ?c4 ?c5 ?_)
            case c1 => exact one_new _ _ _
            case c2 => intro u hu; simp at hu; subst hu; rfl
            case c3 => unfold maxLen; omega
            case c4 => omega
            case c5 => simp; omega
            intro v' u4 hown' hgrow _
            have RO : u4.ownsRow A7.heap.size 9 1 v' (k + 1) (NL.take (k + 1)) := by rw [HCl.out, HNv.out]; exact hown'
            have RB : Below A7.heap.size A7 u4 := ((bt hBr hC4).alloc (by omega) _).grown hgrow (by simp; omega) (fun j hj => (hown3.lt j hj).1)
            clear hown' hgrow hown3
            go_wp2
            go_roundw
            case rel => exact ⟨k + 1, by go_num, by omega, RO, RB⟩
            case measure => simp [intOf]; omega
          · have hkk : k = then_.length := by omega
            subst hkk
            have hfl : fresh.length = then_.length := e8
            rw [List.take_of_length_le (by rw [HNL.out, List.length_map, List.length_map]; omega), HNL.out] at hown
            have hst : StrsIn wr (.slice an then_.length cn) ((fresh.map M.Pk.name).map fun t => ⟨t.toArray⟩) := by
              have h2 : wr.ownsRow A7.heap.size 9 1 (.slice an then_.length cn) (fresh.map M.Pk.name).length ((fresh.map M.Pk.name).map strV) := by rw [List.length_map, hfl]; exact hown
              exact strs_own h2
            have hXr := HX7.out.below (bt hBA7 hBr)
            have cRm := x_remove hXr hBw.size (.slice an then_.length cn) ((fresh.map M.Pk.name).map fun t => ⟨t.toArray⟩) hst.txts (by simp; omega) (fun t ht => by
              obtain ⟨y, hy, rfl⟩ := List.mem_map.1 ht
              obtain ⟨q, hq, rfl⟩ := List.mem_map.1 hy
              have := (ReadP.of (HTg.out q hq)).short.name
              rw [← len_data]
              exact Nat.le_trans this (by decide))
            rw [show ((fresh.map M.Pk.name).map fun t => (⟨t.toArray⟩ : ByteArray)).map (fun t => t.data.toList) = fresh.map M.Pk.name by rw [List.map_map]; exact List.map_id'' (fun _ => rfl) _, HRm.out] at cRm
            replace cRm : Calls Tryz.prog 24 #[.pointer (some ⟨x, 0, none⟩), .slice an then_.length cn] wr fun e w' => e = .returned okV ∧ XAt w' w3.heap.size x n l0 ∧ Over w3.heap.size wr w' := cRm
            have HR8 : Hid (wr.heap[w7.heap.size]? = some (.cells okC 23 (0, 0))) := (hBr.block _ (Array.getElem?_eq_some_iff.1 HR7.out).1).trans HR7.out
            have HSr : Hid (StrsIn wr (.slice a6 l0.length c6) (txsB l0)) := (HS7.out.below hBA7).below hBr
            clear hst hXr hown
            go_wp2_with fail
            refine cRm.mono ?_
            rintro e w8 ⟨rfl, hX8, hO8⟩
            have hr8 : w8.heap[w7.heap.size]? = some (.cells okC 23 (0, 0)) := hO8.flt _ _ _ HR8.out
            obtain ⟨z0, z1, z2, z3, zf⟩ := okC_cell hr8
            have s0 : w8.setCell ⟨w7.heap.size, 0, none⟩ (.int .i64 0) = w8 := setCell_id hr8 rfl
            have s1 : w8.setCell ⟨w7.heap.size, 1, none⟩ (.int .i64 0) = w8 := setCell_id hr8 rfl
            have s2 : w8.setCell ⟨w7.heap.size, 2, none⟩ (.int .i64 0) = w8 := setCell_id hr8 rfl
            have s3 : w8.setCell ⟨w7.heap.size, 3, none⟩ (.string ⟨#[]⟩) = w8 := setCell_id hr8 rfl
            have cP3 := x_packs hX8
            have HS8 : Hid (StrsIn w8 (.slice a6 l0.length c6) (txsB l0)) := hO8.strs _ _ HSr.out
            have HBw8 : Hid (Below w3.heap.size w3 w8) := hBw.trans hO8.low
            have HR9 : Hid (w8.heap[w7.heap.size]? = some (.cells okC 23 (0, 0))) := hr8
            clear cRm hX8 hO8 hr8
            go_wp2_with fail
            refine cP3.mono ?_
            rintro e w9 ⟨a9, c9, rfl, hs9, hB9'⟩
            have cSa := ksame_any (.slice a6 l0.length c6) (.slice a9 l0.length c9) (txsB l0) (txsB l0) w9 (HS8.out.below hB9') hs9 (by rw [txsB_len]; omega) (by rw [txsB_len]; omega)
            rw [decide_eq_true rfl] at cSa
            have HR10 : Hid (w9.heap[w7.heap.size]? = some (.cells okC 23 (0, 0))) := (hB9'.block _ (Array.getElem?_eq_some_iff.1 HR9.out).1).trans HR9.out
            have HBw9 : Hid (Below w3.heap.size w3 w9) := HBw8.out.trans (hB9'.mono HBw8.out.size)
            clear cP3 hs9 hB9' z0 z1 z2 z3 zf s0 s1 s2 s3
            go_wp2_with fail
            refine cSa.mono ?_
            rintro e w10 ⟨rfl, hB10⟩
            obtain ⟨z0, z1, z2, z3, zf⟩ := okC_cell ((hB10.block _ (Array.getElem?_eq_some_iff.1 HR10.out).1).trans HR10.out)
            have HBz : Hid (Below w.heap.size w w10) := (HLow.out _ (HBw9.out.trans (hB10.mono HBw9.out.size))).2.2
            clear cSa hB10
            go_wp2
            go_ret
            exact ⟨rfl, HBz.out⟩
end Go.Proofs.YtgnfknjopafngaaGreatDoor
namespace Go.Proofs.YtgnfknjopafngaaGreatDoor
namespace BackProof
theorem fact1 : (Rows.backRow.inPlace == Tryz.prog.inPlace 7) = true := by kernel_rfl
theorem fact2 : (Rows.backRow.unfollowed == Tryz.prog.unfollowed 7) = true := by kernel_rfl
theorem fact3 : (Rows.backRow.recurses == Tryz.prog.recurses 7) = true := by kernel_rfl
theorem fact4 : (Rows.backRow.named == Tryz.prog.varsNamed 7) = true := by kernel_rfl
theorem closed : joinedFacts Tryz.prog 7 Tryz.f7 Rows.backSpec Rows.backRow = true := by
  unfold joinedFacts
  rw [fact1, fact2, fact3, fact4]
  kernel_rfl
end BackProof
end Go.Proofs.YtgnfknjopafngaaGreatDoor
namespace Go.Proofs.YtgnfknjopafngaaGreatDoor
namespace BackProof
open Go.ChangeShapes Go.WideShapes Go.ChangeAt Go.RowKit
open LaidKit
set_option maxRecDepth 100000 in
theorem lifted (os : Os) (started : os.Started) (H : Type) (enc : TypeId × Value → H) :
    ReturnsInHanded {} Tryz.checked os 7 .any (fun w args => (Rows.backSpec.pre enc Tryz.prog Tryz.f7 Rows.backRow.domain false w args ∧ laidMetH Tryz.prog Rows.backRow.laid w) ∧ sizedMet enc Tryz.prog Tryz.f7 (OpenSpec.ofChange Rows.backSpec) false w args)
      (Rows.backSpec.post enc Tryz.prog Tryz.f7 false true false false) := by
  refine returnsInHanded_of_calls (C := Tryz.checked) own started (by kernel_rfl)
    (ChangeSpec.witness_shaped (enc := enc) (C := Tryz.checked) (os := os) (X := fun w _ => laidMetH Tryz.prog Rows.backRow.laid w) false ((witH (World.holding Tryz.prog os ⟨#[], #[], []⟩)).layVars Tryz.prog dataL) #[.int .i64 0, .slice none 0 0, .slice none 0 0] 8 (wit_os os)
      (World.shaped_of_ZipB (by kernel_rfl) (by kernel_rfl)) (by kernel_rfl) (by kernel_rfl) (by kernel_rfl) (wit_met os _)) ?_
  intro w0 tape inp _ hsh _ hok hpre _
  obtain ⟨_, _, _, fn', hfn', _, _, _, _, hval0'⟩ := hok
  obtain rfl : fn' = Tryz.f7 := Option.some.inj (hfn'.symm.trans Tryz.func7)
  obtain ⟨⟨⟨ds, gs, before, hw, _⟩, hx⟩, hz⟩ := hpre
  have hW := DataW.Whole.of_heap (w' := w0.forCall tape inp) (by rfl) hw
  have hsz := hz.weights hw
  have hL : laidMetH Tryz.prog L (w0.forCall tape inp) := laidMetH.of_heap (by rfl) hx
  have hI := maxLen_int hsh
  suffices hc : Calls Tryz.prog 7 inp.args (w0.forCall tape inp) fun e W' => ∃ v, e = .returned v ∧ Rows.backSpec.post enc Tryz.prog Tryz.f7 false true false false (w0.forCall tape inp) inp.args v W' by
    refine hc.mono fun e W' ⟨v, he, hp⟩ => ?_
    subst he
    exact ChangeSpec.post_blind hp
  clear hz hx hw hsh
  revert hval0' hW hsz hL hI
  generalize inp.args = args
  generalize w0.forCall tape inp = W
  intro hval0 hW hsz hL hI
  have hval : ∀ (j : Nat) t v, Tryz.f7.params[j]? = some t → args[j]? = some v → Value.okWide Tryz.prog W .any w0.heap.size t v := hval0
  have hW' := hW
  obtain ⟨p, q, hA0, hV, rfl, _, _⟩ := hW
  have hA : DataW.TrodAll enc Tryz.prog W 0 (fun _ => true) true Tryz.f7.params.toList args.toList ds p := hA0
  rw [Tryz.params7] at hA hval hsz
  obtain ⟨v0, v1, v2, d0, d1, d2, p0, p1, p2, rfl, rfl, rfl, h0, h1, h2⟩ := trodAll_three hA
  obtain ⟨rfl, rfl⟩ := trodVars_none hV
  have h1k := h1
  have h2k := h2
  obtain ⟨n0, rfl, rfl, rfl, hn0⟩ := open_int Tryz.underlying3 (hval 0 3 v0 rfl rfl) h0
  obtain ⟨l1, t1, z1, y1⟩ := open_txts (okWide_slice Tryz.underlying43 (hval 1 43 v1 rfl rfl)) h1 (weights_of hsz (j := 1) rfl rfl)
  obtain ⟨l2, t2, z2, y2⟩ := open_txts (okWide_slice Tryz.underlying43 (hval 2 43 v2 rfl rfl)) h2 (weights_of hsz (j := 2) rfl rfl)
  have hr := reachBytes_lt
  have hE : Ready W := ⟨laid_err hL, hI⟩
  have hlt : ∀ x ∈ p1 ++ p2, x.block < W.heap.size := fun x hx => hW'.lt x (by simpa using hx)
  refine (back_law n0 v1 v2 l1 l2 W hE t1 t2 (by omega) (fun t ht => by have := y1 t ht; omega) (by omega) (fun t ht => by have := y2 t ht; omega)).mono fun e W' ⟨he, hb'⟩ => ?_
  subst he
  exact ⟨_, rfl, _, _, _, [], _, [], hW', trodAll_mk1 (shut_bool Tryz.underlying4 _), trodAll_mk3 (shut_int Tryz.underlying3 hn0) (Below.trod laidOut (by kernel_rfl) (of_decide_eq_true (by kernel_rfl)) h1k hb' (fun x hx => hlt x (by simp [hx]))) (Below.trod laidOut (by kernel_rfl) (of_decide_eq_true (by kernel_rfl)) h2k hb' (fun x hx => hlt x (by simp [hx]))), rfl, hb'.frame _, fun h => by cases h⟩
theorem said : Rows.BackSaid :=
  OpenClaim.holds_of_wide 7 Tryz.f7 rfl rfl rfl rfl rfl rfl rfl ⟨rfl, rfl, rfl, rfl, rfl⟩ rfl rfl rfl rfl rfl (by kernel_rfl) Tryz.func7 closed
    (of_decide_eq_true (by kernel_rfl)) (by unfold Func.isWrapper; first | (rw [if_pos (by decide +kernel)]; kernel_rfl) | (rw [if_neg (by decide +kernel)]; exact ⟨rfl, rfl⟩))
    (fun os started H enc _ => lifted os started H enc)
theorem plain (f : FuncId) (fn : Func) (hf : Tryz.pinned.checked.prog.funcNamed "parcels/parcelskeep.Back" = some f) (hfn : Tryz.pinned.checked.prog.funcs[f]? = some fn) :
    true = Tryz.pinned.checked.prog.looks [] ∧ ∀ (j : Nat) t, fn.params[j]? = some t → Tryz.pinned.checked.prog.wantsStandIn t = false := by
  obtain rfl : f = 7 := Option.some.inj ((show Tryz.prog.funcNamed "parcels/parcelskeep.Back" = some 7 by kernel_rfl).symm.trans hf) |>.symm
  obtain rfl : fn = Tryz.f7 := (Option.some.inj (Tryz.func7.symm.trans hfn)).symm
  refine ⟨by kernel_rfl, fun j t ht => ?_⟩
  rw [Tryz.params7] at ht
  have hm : t ∈ [3, 43, 43] := by simpa using Array.mem_of_getElem? ht
  rcases List.mem_cons.1 hm with rfl | hm
  · exact (show Tryz.prog.wantsStandIn 3 = false by kernel_rfl)
  · obtain rfl : t = 43 := by simpa using hm
    exact (show Tryz.prog.wantsStandIn 43 = false by kernel_rfl)
end BackProof
theorem back_card : Rows.BackCardSaid :=
  Claim7.holds_tied_plain_at .later [] _ _ _ _ BackProof.said (fun _ h => by cases h) (by kernel_rfl) (fun _ h => by cases h) back_row_tie rfl ⟨rfl, rfl⟩ (by kernel_rfl) rfl BackProof.plain (by kernel_rfl)
end Go.Proofs.YtgnfknjopafngaaGreatDoor
