import Derived.Test.YtgnfknjopafngaaGreatDoorKfo
import Derived.Test.YtgnfknjopafngaaGreatDoorKfn
import Derived.Test.YtgnfknjopafngaaGreatDoorKfg
import Derived.Test.YtgnfknjopafngaaGreatDoorKfl
namespace Go.Proofs.YtgnfknjopafngaaGreatDoor
open Go.RowKit
set_option maxRecDepth 100000 in
set_option maxHeartbeats 4000000 in
theorem read_pShort (s : ByteArray) (w : World) (hw : MaxIs w) (h : s.size ≤ 300) : Calls Tryz.prog 55 #[.string s] w (PrPost s w) := by
  have hmf : ∀ (fn : Fn) (first cap : Array Value) (w : World), (Instr.makeFunc fn first cap).run Tryz.prog w = .ok (.func fn first cap) w := fun _ _ _ _ => rfl
  have cY := must_ok
  have hd : (s.size : Int) ≤ 300 := by omega
  obtain ⟨A, hA⟩ := bytes_ex (Lib.trimSuffix s.data.toList [10])
  have hAs : A.size ≤ s.size := by have := trimS_len' s.data.toList [10]; have h := len_data s; rw [size_of hA]; omega
  obtain ⟨ps, hps⟩ := bytes_list (cutB A ⟨#[10]⟩)
  obtain ⟨f1, f2, f3, f4, f5, f6, f7, f8, f9⟩ := read3_is w (.slice none 0 0) (.int .i64 0)
  have cT := fun wx => trim_lib s ⟨#[10]⟩ A wx (by omega) hA.symm
  have cC := clone_lib s (read3 w (.slice none 0 0) (.int .i64 0)) (by omega)
  replace cY : ∀ wx, Calls Tryz.prog 83 #[.bool true] wx fun e w' => e = .returned (.tuple #[]) ∧ wx = w' := fun wx => (cY wx).mono fun e w' h => ⟨h.1, h.2.symm⟩
  replace cT : ∀ wx, Calls Tryz.prog 86 #[.string s, .string ⟨#[10]⟩] wx fun e w' => e = .returned (.string A) ∧ wx = w' := fun wx => (cT wx).mono fun e w' h => ⟨h.1, h.2.symm⟩
  rw [f1] at cC
  go_enter_defers Tryz.func55, Tryz.ntmps55
  go_wp2_with (first | (go_at_call 83; refine (cY _).mono ?_; rintro e w' ⟨rfl, rfl⟩) | (go_at_call 84; refine cC.mono ?_; rintro e wc ⟨rfl, hBc⟩) | (go_at_call 86; fail))
  have HBc : Hid (Below (w.heap.size + 3) (read3 w (.slice none 0 0) (.int .i64 0)) wc) := hBc
  have hcs : w.heap.size + 3 ≤ wc.heap.size := by have := hBc.size; rw [f1] at this; exact this
  have m3 : ∀ j, j < 5 → ∃ u, wc.cell? ⟨w.heap.size, j, none⟩ = some u := fun j hj => by
    obtain ⟨u, hu⟩ := f3 j hj
    exact ⟨u, (hBc.cell (p := ⟨w.heap.size, j, none⟩) (by show w.heap.size < w.heap.size + 3; omega)).trans hu⟩
  have m4 : ∀ o, wc.frozen? ⟨w.heap.size, o, none⟩ = false := fun o => (hBc.frozen (p := ⟨w.heap.size, o, none⟩) (by show w.heap.size < w.heap.size + 3; omega)).trans (f4 o)
  have m5 : wc.cell? ⟨w.heap.size + 1, 0, none⟩ = some .nilIface := (hBc.cell (p := ⟨w.heap.size + 1, 0, none⟩) (by show w.heap.size + 1 < w.heap.size + 3; omega)).trans f5
  have m6 : wc.frozen? ⟨w.heap.size + 1, 0, none⟩ = false := (hBc.frozen (p := ⟨w.heap.size + 1, 0, none⟩) (by show w.heap.size + 1 < w.heap.size + 3; omega)).trans f6
  have m7 : wc.cell? ⟨w.heap.size + 1 + 1, 0, none⟩ = some (.slice none 0 0) := (hBc.cell (p := ⟨w.heap.size + 1 + 1, 0, none⟩) (by show w.heap.size + 1 + 1 < w.heap.size + 3; omega)).trans f7
  have m8 : wc.cell? ⟨w.heap.size + 1 + 1, 1, none⟩ = some (.int .i64 0) := (hBc.cell (p := ⟨w.heap.size + 1 + 1, 1, none⟩) (by show w.heap.size + 1 + 1 < w.heap.size + 3; omega)).trans f8
  have m9 : ∀ o, wc.frozen? ⟨w.heap.size + 1 + 1, o, none⟩ = false := fun o => (hBc.frozen (p := ⟨w.heap.size + 1 + 1, o, none⟩) (by show w.heap.size + 1 + 1 < w.heap.size + 3; omega)).trans (f9 o)
  have hBw : Below w.heap.size w wc := f2.trans (hBc.mono (by omega))
  have cS := split_lib A ⟨#[10]⟩ ps wc (hw.below hBw) (by omega) (by decide) hps
  obtain ⟨d1, d2, d3, d4⟩ := newB wc (ps.map Value.string) 9 0
  have HA : Hid (Lib.trimSuffix s.data.toList [10] = A.data.toList) := hA.symm
  have HP : Hid (cutB A ⟨#[10]⟩ = ps.map fun q => q.data.toList) := hps
  generalize hWa : wc.alloc (.cells (ps.map Value.string).toArray 9) = wa at cS
  have hWa' : (wc.alloc (.cells (ps.map Value.string).toArray 9)).drewN 0 = wa := hWa
  rw [hWa'] at d1 d2 d3
  clear hWa' d4 hWa
  replace cS : Calls Tryz.prog 85 #[.string A, .string ⟨#[10]⟩] wc fun e w' => e = .returned (.slice (some ⟨wc.heap.size, 0, none⟩) ps.length ps.length) ∧ wa = w' := cS.mono fun e w' h => ⟨h.1, h.2.symm⟩
  have n7 : wa.cell? ⟨w.heap.size + 1 + 1, 0, none⟩ = some (.slice none 0 0) := (d1.cell (p := ⟨w.heap.size + 1 + 1, 0, none⟩) (by show w.heap.size + 1 + 1 < wc.heap.size; omega)).trans m7
  have n8 : wa.cell? ⟨w.heap.size + 1 + 1, 1, none⟩ = some (.int .i64 0) := (d1.cell (p := ⟨w.heap.size + 1 + 1, 1, none⟩) (by show w.heap.size + 1 + 1 < wc.heap.size; omega)).trans m8
  have n9 : ∀ o, wa.frozen? ⟨w.heap.size + 1 + 1, o, none⟩ = false := fun o => (d1.frozen (p := ⟨w.heap.size + 1 + 1, o, none⟩) (by show w.heap.size + 1 + 1 < wc.heap.size; omega)).trans (m9 o)
  clear f3 f4 f5 f6 f7 f8 f9 hBc hA hps cC
  go_wp2_with (first | (go_at_call 86; refine (cT _).mono ?_; rintro e w' ⟨rfl, rfl⟩) | (go_at_call 85; refine cS.mono ?_; rintro e w' ⟨rfl, rfl⟩))
  generalize hW4 : (wa.setCell ⟨w.heap.size + 1 + 1, 0, none⟩ (.slice (some ⟨wc.heap.size, 0, none⟩) ps.length ps.length)).setCell ⟨w.heap.size + 1 + 1, 1, none⟩ (.int .i64 1) = W4
  have s4 : W4.heap.size = wc.heap.size + 1 := by rw [← hW4, setC_size, setC_size]; exact d2
  have o4 : ∀ g o, g ≠ w.heap.size + 1 + 1 → g < wc.heap.size → W4.cell? ⟨g, o, none⟩ = wc.cell? ⟨g, o, none⟩ := fun g o hg hlt => by
    rw [← hW4, setC_blk _ _ _ _ _ _ hg, setC_blk _ _ _ _ _ _ hg]
    exact d1.cell (p := ⟨g, o, none⟩) hlt
  have o5 : ∀ g o, g < wc.heap.size → W4.frozen? ⟨g, o, none⟩ = wc.frozen? ⟨g, o, none⟩ := fun g o hlt => by
    rw [← hW4, World.frozen?_setCell, World.frozen?_setCell]
    exact d1.frozen (p := ⟨g, o, none⟩) hlt
  have hB4 : Below w.heap.size w W4 := by
    rw [← hW4]
    exact ((hBw.trans (d1.mono hBw.size)).setCell (show w.heap.size ≤ w.heap.size + 1 + 1 by omega) _).setCell (show w.heap.size ≤ w.heap.size + 1 + 1 by omega) _
  have hpn : ps.length ≤ 301 := by
    have e : (cutB A ⟨#[10]⟩).length = ps.length := by rw [HP.out]; simp
    have h2 : (cutB A ⟨#[10]⟩).length ≤ A.data.toList.length + 1 := (M.cutS_len A.data.toList [10]).2
    have h3 := len_data A
    omega
  have hR : RAt W4 (w.heap.size + 1 + 1) wc.heap.size ps 0 := by
    refine ⟨?_, ?_, fun o => (o5 _ o (by omega)).trans (m9 o), fun j hj => ?_, by omega, by omega, Nat.zero_le _⟩
    · rw [← hW4, World.cell?_setCell_other _ _ _ _ (by simp), World.cell?_setCell_same _ _ _ n7]
    · rw [← hW4, World.cell?_setCell_same _ _ _ (by rw [World.cell?_setCell_other _ _ _ _ (by simp)]; exact n8)]
      rfl
    · rw [← hW4, setC_blk _ _ _ _ _ _ (by omega), setC_blk _ _ _ _ _ _ (by omega)]
      exact d3 j _ (by simp [hj])
  have hgl : 1 < w.heap.size + 1 + 1 := by have := hw.lt; omega
  have cR := readPackage_any W4 (w.heap.size + 1 + 1) wc.heap.size ps hR (hw.below hB4) hgl (by omega) (fun q hq => by have := piece_size HP.out q hq; omega)
  have HR : Hid (M.readS s.data.toList = (match titlesC (ps.map fun q => q.data.toList) M.emptyPk with | .inl n => .inl n | .inr p => .inr { p with files := M.sortF p.files })) := by
    show _ = _
    rw [read_is _ (by rw [len_data]; exact h), HA.out, show M.cutS A.data.toList [10] = _ from HP.out]
    cases titlesC (ps.map fun q => q.data.toList) M.emptyPk <;> rfl
  have p3 : ∀ j, j < 5 → ∃ u, W4.cell? ⟨w.heap.size, j, none⟩ = some u := fun j hj => by
    obtain ⟨u, hu⟩ := m3 j hj
    exact ⟨u, (o4 _ _ (by omega) (by omega)).trans hu⟩
  have p4 : ∀ o, W4.frozen? ⟨w.heap.size, o, none⟩ = false := fun o => (o5 _ o (by omega)).trans (m4 o)
  have p5 : W4.cell? ⟨w.heap.size + 1, 0, none⟩ = some .nilIface := (o4 _ _ (by omega) (by omega)).trans m5
  have p6 : W4.frozen? ⟨w.heap.size + 1, 0, none⟩ = false := (o5 _ _ (by omega)).trans m6
  have hlo : w.heap.size ≤ W4.heap.size := hB4.size
  clear d1 d2 d3 n7 n8 n9 m3 m4 m5 m6 m7 m8 m9 o4 o5 hR f1 f2 cS cT HBc hBw HA HP
  refine cR.mono ?_
  rintro e w5 ⟨hB5, hm⟩
  have r3 : ∀ j, j < 5 → ∃ u, w5.cell? ⟨w.heap.size, j, none⟩ = some u := fun j hj => by
    obtain ⟨u, hu⟩ := p3 j hj
    exact ⟨u, (hB5.cell (p := ⟨w.heap.size, j, none⟩) (by show w.heap.size < w.heap.size + 1 + 1; omega)).trans hu⟩
  have r4 : ∀ o, w5.frozen? ⟨w.heap.size, o, none⟩ = false := fun o => (hB5.frozen (p := ⟨w.heap.size, o, none⟩) (by show w.heap.size < w.heap.size + 1 + 1; omega)).trans (p4 o)
  have r5 : w5.cell? ⟨w.heap.size + 1, 0, none⟩ = some .nilIface := (hB5.cell (p := ⟨w.heap.size + 1, 0, none⟩) (Nat.lt_succ_self _)).trans p5
  have r6 : w5.frozen? ⟨w.heap.size + 1, 0, none⟩ = false := (hB5.frozen (p := ⟨w.heap.size + 1, 0, none⟩) (Nat.lt_succ_self _)).trans p6
  have hB6 : Below w.heap.size w w5 := hB4.trans (hB5.mono (by omega))
  clear p3 p4 p5 p6 hB5 hB4 cR hW4 cY hmf
  cases ht : titlesC (ps.map fun q => q.data.toList) M.emptyPk with
  | inl n =>
    rw [ht] at hm
    obtain ⟨rfl, hc⟩ := hm
    have HE : Hid (M.readS s.data.toList = .inl n) := by show _ = _; rw [HR.out, ht]
    have hC := caught_is w.heap.size (w.heap.size + 1) n w w5 r3 _ r5 (by omega) hB6 (Nat.le_refl _) (by omega)
    have cD := catch_panicking (w.heap.size + 1 + 1) w.heap.size (w.heap.size + 1) n w5 [] hc r3 r4 _ r5 r6 (by omega)
    clear ht HR
    go_wp2
    refine leaves_cons (f := 82) (args := #[.pointer (some ⟨w.heap.size + 1 + 1, 0, none⟩), .pointer (some ⟨w.heap.size, 0, none⟩), .pointer (some ⟨w.heap.size + 1, 0, none⟩)]) (by simp) (by simp [go_sem]) ?_
    refine cD.mono ?_
    rintro e u' w'' ⟨rfl, rfl, hw2⟩
    have hC2 : Caught w.heap.size (w.heap.size + 1) n w w5 w'' := by rw [hw2]; exact hC
    clear hw2 hC cD
    have z0 := hC2.c0
    have z1 := hC2.c1
    have z2 := hC2.c2
    have z3 := hC2.c3
    have z4 := hC2.c4
    have ze := hC2.ce
    simp [Leaves, settle, results, Tryz.results55, go_sem, z0, z1, z2, z3, z4, ze]
    exact pr_fault hC2 HE.out
  | inr p =>
    rw [ht] at hm
    obtain ⟨v, rfl, hv⟩ := hm
    have HE : Hid (M.readS s.data.toList = .inr { p with files := M.sortF p.files }) := by show _ = _; rw [HR.out, ht]
    have HV : Hid (PkFrom W4.heap.size w5 { p with files := M.sortF p.files } v) := hv
    obtain ⟨nv, bv, fv, ev, hn1, hb1, hf1⟩ := hv
    obtain ⟨an, cn, en⟩ := hn1.form
    obtain ⟨ab, cb, eb⟩ := hb1.form
    obtain ⟨af, cf, ef⟩ := hf1.form
    clear ht HR hn1 hb1 hf1
    subst en eb ef ev
    obtain ⟨v0, e0⟩ := r3 0 (by decide)
    obtain ⟨v1, e1⟩ := r3 1 (by decide)
    obtain ⟨v2, e2⟩ := r3 2 (by decide)
    obtain ⟨v3, e3⟩ := r3 3 (by decide)
    obtain ⟨v4, e4⟩ := r3 4 (by decide)
    have hne : ¬ w.heap.size + 1 = w.heap.size := by omega
    go_wp2
    refine leaves_cons (f := 82) (args := #[.pointer (some ⟨w.heap.size + 1 + 1, 0, none⟩), .pointer (some ⟨w.heap.size, 0, none⟩), .pointer (some ⟨w.heap.size + 1, 0, none⟩)]) (by simp) (by simp [go_sem]) ?_
    refine (catch_idle ⟨w.heap.size + 1 + 1, 0, none⟩ ⟨w.heap.size, 0, none⟩ ⟨w.heap.size + 1, 0, none⟩ _).mono ?_
    rintro e u' w'' ⟨rfl, rfl, hw2⟩
    obtain ⟨y0, y1, y2, y3, y4⟩ := set5 w5 w.heap.size (.string ⟨p.name.toArray⟩) (.string ⟨p.ver.toArray⟩) (.slice an p.needs.length cn) (.slice ab p.bars.length cb) (.slice af (M.sortF p.files).length cf) r3
    have hne2 : w.heap.size ≠ w.heap.size + 1 := by omega
    have hk : ∀ j u, (((((w5.setCell ⟨w.heap.size, 0, none⟩ (.string ⟨p.name.toArray⟩)).setCell ⟨w.heap.size, 1, none⟩ (.string ⟨p.ver.toArray⟩)).setCell ⟨w.heap.size, 2, none⟩ (.slice an p.needs.length cn)).setCell ⟨w.heap.size, 3, none⟩ (.slice ab p.bars.length cb)).setCell ⟨w.heap.size, 4, none⟩ (.slice af (M.sortF p.files).length cf)).cell? ⟨w.heap.size, j, none⟩ = some u → w''.cell? ⟨w.heap.size, j, none⟩ = some u := fun j u hu => by rw [hw2, setC_blk _ _ _ _ _ _ hne2]; exact hu
    have z0 := hk _ _ y0
    have z1 := hk _ _ y1
    have z2 := hk _ _ y2
    have z3 := hk _ _ y3
    have z4 := hk _ _ y4
    have ze : w''.cell? ⟨w.heap.size + 1, 0, none⟩ = some .nilIface := by
      rw [hw2, World.cell?_setCell_same _ _ _ (by rw [setC_blk _ _ _ _ _ _ hne, setC_blk _ _ _ _ _ _ hne, setC_blk _ _ _ _ _ _ hne, setC_blk _ _ _ _ _ _ hne, setC_blk _ _ _ _ _ _ hne]; exact r5)]
    have hBf : Below w.heap.size w w'' := by
      rw [hw2]
      have hle := Nat.le_refl w.heap.size
      exact (((((hB6.setCell hle _).setCell hle _).setCell hle _).setCell hle _).setCell hle _).setCell (show w.heap.size ≤ w.heap.size + 1 by omega) _
    have hPf : PkFrom W4.heap.size w'' { p with files := M.sortF p.files } (.agg #[.string ⟨p.name.toArray⟩, .string ⟨p.ver.toArray⟩, .slice an p.needs.length cn, .slice ab p.bars.length cb, .slice af (M.sortF p.files).length cf]) := by
      rw [hw2]
      have h1 : w.heap.size < W4.heap.size := by omega
      have h2 : w.heap.size + 1 < W4.heap.size := by omega
      exact (((((HV.out.set h1).set h1).set h1).set h1).set h1).set h2
    clear hw2 hk y0 y1 y2 y3 y4 e0 e1 e2 e3 e4 r5 r4 r6
    simp [Leaves, settle, results, Tryz.results55, go_sem, z0, z1, z2, z3, z4, ze]
    refine ⟨hBf, ?_⟩
    rw [HE.out]
    exact ⟨_, rfl, hPf.lower hlo⟩
theorem pRead_any (s : ByteArray) (w : World) (hw : MaxIs w) (hs : s.size ≤ 8192) : Calls Tryz.prog 55 #[.string s] w (PrPost s w) := by
  by_cases h : s.size ≤ 300
  · exact read_pShort s w hw h
  · exact read_pLong s w (by omega) hs
end Go.Proofs.YtgnfknjopafngaaGreatDoor
namespace Go.Proofs.YtgnfknjopafngaaGreatDoor
open Go.RowKit
set_option maxRecDepth 100000 in
set_option maxHeartbeats 2000000 in
theorem writeChoice_walk (N S V : ByteArray) (w : World) (hN : N.size ≤ 8000) (hS : S.size ≤ 8000) (hV : V.size ≤ 8000) :
    Calls Tryz.prog 91 #[.agg #[.string N, .string S, .string V]] w fun e w' => ∃ T : ByteArray, e = .returned (.string T) ∧ T.data.toList = M.chText ⟨N.data.toList, S.data.toList, V.data.toList⟩ ∧ Below w.heap.size w w' := by
  by_cases h0 : S.toList.isEmpty = true
  · have HE : Hid (M.chText ⟨N.data.toList, S.data.toList, V.data.toList⟩ = N.data.toList) := by
      show _ = _
      unfold M.chText
      rw [if_pos (by rw [Lib.toList_data, List.isEmpty_iff] at h0; exact h0)]
    go_enter Tryz.func91, Tryz.ntmps91
    go_wp2
    go_ret
    exact ⟨N, rfl, HE.out.symm, (Below.refl _ w).alloc (Nat.le_refl _) _⟩
  · have h0' : S.toList.isEmpty = false := by simpa using h0
    have HE : Hid (M.chText ⟨N.data.toList, S.data.toList, V.data.toList⟩ = N.data.toList ++ [32, 40] ++ S.data.toList ++ [32] ++ V.data.toList ++ [41]) := by
      show _ = _
      unfold M.chText
      rw [if_neg (by rw [Lib.toList_data, List.isEmpty_iff] at h0; exact h0)]
    clear h0
    go_enter Tryz.func91, Tryz.ntmps91
    go_wp2
    go_ret
    refine ⟨_, rfl, ?_, (Below.refl _ w).alloc (Nat.le_refl _) _⟩
    rw [HE.out]
    simp only [cat_toList]
theorem writeChoice_any (c : M.Ch) (w : World) (hN : c.name.length ≤ 8000) (hS : c.sign.length ≤ 8000) (hV : c.ver.length ≤ 8000) :
    Calls Tryz.prog 91 #[.agg #[.string ⟨c.name.toArray⟩, .string ⟨c.sign.toArray⟩, .string ⟨c.ver.toArray⟩]] w fun e w' => e = .returned (.string ⟨(M.chText c).toArray⟩) ∧ Below w.heap.size w w' := by
  have sz : ∀ l : List UInt8, (ByteArray.mk l.toArray).size = l.length := fun l => by rw [← len_data]
  refine (writeChoice_walk ⟨c.name.toArray⟩ ⟨c.sign.toArray⟩ ⟨c.ver.toArray⟩ w (by rw [sz]; exact hN) (by rw [sz]; exact hS) (by rw [sz]; exact hV)).mono fun e w' h => ?_
  obtain ⟨T, h1, h2, h3⟩ := h
  refine ⟨?_, h3⟩
  rw [h1]
  have : T = ⟨(M.chText c).toArray⟩ := bytes_of h2
  rw [this]
theorem joinS_is (sep : List UInt8) : ∀ l : List (List UInt8), M.joinS sep l = Lib.join l sep
  | [] => rfl
  | [x] => by simp [M.joinS, Lib.join, List.intercalate]
  | x :: y :: r => by
    have ih := joinS_is sep (y :: r)
    rw [M.joinS, ih]
    simp [Lib.join, List.intercalate]
theorem joinS_len (sep : List UInt8) (m : Nat) : ∀ l : List (List UInt8), (∀ x ∈ l, x.length ≤ m) → (M.joinS sep l).length ≤ l.length * (m + sep.length)
  | [], _ => by simp [M.joinS]
  | [x], h => by
    have := h x (by simp)
    simp [M.joinS]
    omega
  | x :: y :: r, h => by
    have ih := joinS_len sep m (y :: r) (fun z hz => h z (by simp at hz ⊢; exact .inr hz))
    have := h x (by simp)
    rw [M.joinS, List.length_append, List.length_append, List.length_cons, Nat.add_mul]
    omega
theorem chText_len (c : M.Ch) (hN : c.name.length ≤ 8000) (hS : c.sign.length ≤ 8000) (hV : c.ver.length ≤ 8000) : (M.chText c).length ≤ 300010 := by
  unfold M.chText
  split
  · omega
  · simp; omega
theorem join_lib (l : List (List UInt8)) (sep : ByteArray) (v : Value) (B : Nat) (w : World) (h : w.ownsRow B 9 1 v l.length (l.map strV)) (hn : l.length ≤ 1000) (hsep : sep.size ≤ 1000) (hl : ∀ x ∈ l, x.length ≤ 1000000000) :
    Calls Tryz.prog 94 #[v, .string sep] w fun e w' => e = .returned (.string ⟨(M.joinS sep.data.toList l).toArray⟩) ∧ Below w.heap.size w w' := by
  rcases RowIn.own h with ⟨rfl, h0, _⟩ | ⟨g, cap, rfl, h1, h2, h3, h4⟩
  · obtain rfl := List.length_eq_zero_iff.mp h0
    exact (Tryz.strings_Join_none none 0 sep w).mono fun e w' h => ⟨h.1, by rw [h.2]; exact Below.refl _ _⟩
  · have em : (l.map fun q => (⟨q.toArray⟩ : ByteArray)).map (fun p => p.data.toList) = l := by
      rw [List.map_map]
      exact List.map_id'' (fun _ => rfl) l
    have hlen := joinS_len sep.data.toList 1000000000 l hl
    have hsl := len_data sep
    have hb : l.length * (1000000000 + sep.data.toList.length) ≤ 1000 * (1000000000 + 1000) := Nat.mul_le_mul hn (by omega)
    have hc := Tryz.strings_Join g 0 cap (l.map fun q => ⟨q.toArray⟩) sep w (fun j x hx => by
      rw [Nat.zero_add]
      rw [List.getElem?_map] at hx
      obtain ⟨q, hq, rfl⟩ := Option.map_eq_some_iff.1 hx
      exact h4 j (strV q) (by rw [List.getElem?_map, hq]; rfl)) h3.1 (by simp; omega) (by simpa using h1) (by rw [em, ← joinS_is]; omega)
    rw [em, ← joinS_is, List.length_map] at hc
    exact hc
theorem join_lib2 (l : List (List UInt8)) (sep : ByteArray) (v : Value) (B : Nat) (w : World) (h : w.ownsRow B 9 1 v l.length (l.map strV)) (hn : l.length ≤ 1000) (hlen : (M.joinS sep.data.toList l).length ≤ 100000000000000) :
    Calls Tryz.prog 94 #[v, .string sep] w fun e w' => e = .returned (.string ⟨(M.joinS sep.data.toList l).toArray⟩) ∧ Below w.heap.size w w' := by
  rcases RowIn.own h with ⟨rfl, h0, _⟩ | ⟨g, cap, rfl, h1, h2, h3, h4⟩
  · obtain rfl := List.length_eq_zero_iff.mp h0
    exact (Tryz.strings_Join_none none 0 sep w).mono fun e w' h => ⟨h.1, by rw [h.2]; exact Below.refl _ _⟩
  · have em : (l.map fun q => (⟨q.toArray⟩ : ByteArray)).map (fun p => p.data.toList) = l := by
      rw [List.map_map]
      exact List.map_id'' (fun _ => rfl) l
    have hc := Tryz.strings_Join g 0 cap (l.map fun q => ⟨q.toArray⟩) sep w (fun j x hx => by
      rw [Nat.zero_add]
      rw [List.getElem?_map] at hx
      obtain ⟨q, hq, rfl⟩ := Option.map_eq_some_iff.1 hx
      exact h4 j (strV q) (by rw [List.getElem?_map, hq]; rfl)) h3.1 (by simp; omega) (by simpa using h1) (by rw [em, ← joinS_is]; omega)
    rw [em, ← joinS_is, List.length_map] at hc
    exact hc
end Go.Proofs.YtgnfknjopafngaaGreatDoor
namespace Go.Proofs.YtgnfknjopafngaaGreatDoor
open Go.RowKit
set_option maxRecDepth 100000 in
set_option maxHeartbeats 2000000 in
theorem writeChoices_any (v : Value) (l : List M.Ch) (sep : ByteArray) (w : World) (hv : RowIn w 0 w.heap.size v l.length (chsCells l)) (hsh : ShortC l) (hsep : sep.size ≤ 1000) :
    Calls Tryz.prog 90 #[v, .string sep, .func (.func 91) #[] #[]] w fun e w' => e = .returned (.string ⟨(M.printedS sep.data.toList l).toArray⟩) ∧ Below w.heap.size w w' := by
  obtain ⟨i0, hi0, hz0, hz1, hz2⟩ := info_parts infoStr
  obtain ⟨av, cv, ev⟩ := hv.form
  subst ev
  obtain ⟨hn, hsh⟩ := hsh
  have HSH : Hid (∀ c ∈ l, c.name.length ≤ 8000 ∧ c.sign.length ≤ 8000 ∧ c.ver.length ≤ 8000) := hsh
  have HV : Hid (RowIn w 0 w.heap.size (.slice av l.length cv) l.length (chsCells l)) := hv
  have eR : ∀ args w, (callFunc 91 args).run Tryz.prog w = .ok (.enter 91 args) w := enters_of Tryz.func91 (by kernel_rfl) rfl
  clear hsh hv
  go_enter Tryz.func90, Tryz.ntmps90
  go_wp2_with fail
  go_loopw [7, 9, 12] (fun v _ i wr => ∃ (ts : List (List UInt8)) (k : Nat), i = .int .i64 k ∧ k ≤ l.length ∧ ts.length = k ∧ wr.ownsRow w.heap.size 9 1 v k (ts.map strV) ∧ Below w.heap.size w wr ∧ Hid (ts = (l.take k).map M.chText)) (fun _ _ i _ => l.length - (intOf i).toNat)
  case atStart => exact ⟨[], 0, rfl, Nat.zero_le _, rfl, World.ownsRow_nil _ _ _ _, Below.refl _ _, rfl⟩
  case round =>
    obtain ⟨ts, k, rfl, hk, hlk, hown, hBr, HR⟩ := hrel
    have hsr := hBr.size
    by_cases hlt : k < l.length
    · obtain ⟨g, rfl, hg, hcap, hc⟩ := HV.out.cellAt (by omega)
      obtain ⟨k0, k1, k2⟩ := ch_cell hlt
      have hb := HSH.out _ (List.getElem_mem hlt)
      have cx : wr.cell? ⟨g, k * 3, none⟩ = some (.string ⟨l[k].name.toArray⟩) := (hBr.cell (p := ⟨g, k * 3, none⟩) hg).trans (hc _ _ k0)
      have cy : wr.cell? ⟨g, k * 3 + 1, none⟩ = some (.string ⟨l[k].sign.toArray⟩) := (hBr.cell (p := ⟨g, k * 3 + 1, none⟩) hg).trans (hc _ _ k1)
      have cz : wr.cell? ⟨g, k * 3 + 2, none⟩ = some (.string ⟨l[k].ver.toArray⟩) := (hBr.cell (p := ⟨g, k * 3 + 2, none⟩) hg).trans (hc _ _ k2)
      have cK := fun wx => writeChoice_any l[k] wx hb.1 hb.2.1 hb.2.2
      obtain ⟨t, ht⟩ : ∃ t : List UInt8, t = M.chText l[k] := ⟨_, rfl⟩
      rw [← ht] at cK
      have HT : Hid (ts ++ [t] = (l.take (k + 1)).map M.chText) := by
        show _ = _
        rw [List.take_succ_eq_append_getElem hlt, List.map_append, ht, HR.out]; rfl
      clear hc k0 k1 k2 hb ht
      go_wp2_with fail
      refine (cK _).mono ?_
      rintro e w2 ⟨rfl, hB2⟩
      clear cK
      replace hB2 : Below wr.heap.size wr w2 := bt ((Below.refl _ wr).alloc (Nat.le_refl _) _) hB2
      have hown2 := own_below hown hB2
      have hs2 := hB2.size
      go_wp2_with (at_builtin; refine wpList_append_own _ rfl _ _ 43 rfl w.heap.size 9 i0 (.string ⟨#[]⟩) 1 16 Tryz.underlying43 hi0 hz0 hz1 hz2 rfl (by decide) _ _ _ rfl (hown2.alloc _) ⟨w2.heap.size, 0, none⟩ 1 1 [.string ⟨t.toArray⟩] rfl rfl ?c1 ?c2 ?c3 ?c4 ?c5 ?_)
      case c1 => exact one_new _ _ _
      case c2 => intro u hu; simp at hu; subst hu; rfl
      case c3 => unfold maxLen; omega
      case c4 => omega
      case c5 => simp; omega
      intro v' w3 hown' hgrow _
      have R1 : w3.ownsRow w.heap.size 9 1 v' (k + 1) ((ts ++ [t]).map strV) := by
        rw [List.map_append]; exact hown'
      have R2 : Below w.heap.size w w3 :=
        ((hBr.trans (hB2.mono hsr)).alloc (by omega) _).grown hgrow (by simp; omega) (fun j hj => (hown.lt j hj).1)
      clear hown' hgrow hown hown2
      go_wp2
      go_roundw
      case rel => exact ⟨_, k + 1, by go_num, by omega, by simp; omega, R1, R2, HT⟩
      case measure => simp [intOf]; omega
    · have hkk : k = l.length := by omega
      have HR2 := HR.out
      rw [hkk, List.take_length] at HR2
      subst HR2
      have hown' := hown
      rw [← hlk] at hown'
      have cJ := join_lib _ sep _ _ wr hown' (by simpa using hn) hsep (fun x hx => by
        obtain ⟨c, hcm, rfl⟩ := List.mem_map.1 hx
        have := HSH.out c hcm
        have := chText_len c this.1 this.2.1 this.2.2
        omega)
      obtain ⟨aw, cw, ew⟩ := own_form hown
      subst ew
      subst hkk
      clear hown hown' HR hlk hk hlt
      go_wp2_with fail
      refine cJ.mono ?_
      rintro e w9 ⟨rfl, hB9⟩
      go_wp2
      go_ret
      exact ⟨rfl, bt hBr hB9⟩
end Go.Proofs.YtgnfknjopafngaaGreatDoor
namespace Go.Proofs.YtgnfknjopafngaaGreatDoor
open Go.RowKit
set_option maxHeartbeats 1000000 in
theorem writeGroup_any (v : Value) (l : List M.Ch) (w : World) (hv : RowIn w 0 w.heap.size v l.length (chsCells l)) (hsh : ShortC l) :
    Calls Tryz.prog 89 #[v] w fun e w' => e = .returned (.string ⟨(M.printedS [32, 124, 32] l).toArray⟩) ∧ Below w.heap.size w w' := by
  have cW := writeChoices_any v l ⟨#[32, 124, 32]⟩ w hv hsh (by decide)
  have e0 : (ByteArray.mk #[32, 124, 32]).data.toList = [32, 124, 32] := rfl
  rw [e0] at cW
  obtain ⟨av, cv, ev⟩ := hv.form
  subst ev
  generalize M.printedS [32, 124, 32] l = t at cW ⊢
  clear hv hsh
  go_enter Tryz.func89, Tryz.ntmps89
  go_wp2_with fail
  refine cW.mono ?_
  rintro e w2 ⟨rfl, hB2⟩
  go_wp2
  go_ret
  exact ⟨rfl, hB2⟩
theorem printed_len (l : List M.Ch) (h : ShortC l) : (M.printedS [32, 124, 32] l).length ≤ 400000000 := by
  have h1 := joinS_len [32, 124, 32] 300010 (l.map M.chText) (fun x hx => by
    obtain ⟨c, hcm, rfl⟩ := List.mem_map.1 hx
    have := h.2 c hcm
    exact chText_len c this.1 this.2.1 this.2.2)
  have h2 := h.1
  rw [List.length_map] at h1
  have h3 : l.length * (300010 + [32, 124, 32].length) ≤ 1000 * (300010 + [32, 124, 32].length) := Nat.mul_le_mul_right _ h2
  unfold M.printedS
  simp only [List.length_cons, List.length_nil] at h1 h3
  omega
set_option maxRecDepth 100000 in
set_option maxHeartbeats 2000000 in
theorem writeGroups_any (v : Value) (l : List (List M.Ch)) (sep : ByteArray) (w : World) (hv : NeedsIn w 0 w.heap.size v l) (hn : l.length ≤ 1000) (hsh : ∀ x ∈ l, ShortC x) (hsep : sep.size ≤ 1000) :
    Calls Tryz.prog 88 #[v, .string sep, .func (.func 89) #[] #[]] w fun e w' => e = .returned (.string ⟨(M.joinS sep.data.toList (l.map (M.printedS [32, 124, 32]))).toArray⟩) ∧ Below w.heap.size w w' := by
  obtain ⟨i0, hi0, hz0, hz1, hz2⟩ := info_parts infoStr
  obtain ⟨av, cv, ev⟩ := hv.form
  subst ev
  have HSH : Hid (∀ x ∈ l, ShortC x) := hsh
  have HV : Hid (NeedsIn w 0 w.heap.size (.slice av l.length cv) l) := hv
  have eR : ∀ args w, (callFunc 89 args).run Tryz.prog w = .ok (.enter 89 args) w := enters_of Tryz.func89 (by kernel_rfl) rfl
  clear hsh hv
  go_enter Tryz.func88, Tryz.ntmps88
  go_wp2_with fail
  go_loopw [7, 9, 12] (fun v _ i wr => ∃ (ts : List (List UInt8)) (k : Nat), i = .int .i64 k ∧ k ≤ l.length ∧ ts.length = k ∧ wr.ownsRow w.heap.size 9 1 v k (ts.map strV) ∧ Below w.heap.size w wr ∧ Hid (ts = (l.take k).map (M.printedS [32, 124, 32]))) (fun _ _ i _ => l.length - (intOf i).toNat)
  case atStart => exact ⟨[], 0, rfl, Nat.zero_le _, rfl, World.ownsRow_nil _ _ _ _, Below.refl _ _, rfl⟩
  case round =>
    obtain ⟨ts, k, rfl, hk, hlk, hown, hBr, HR⟩ := hrel
    have hsr := hBr.size
    by_cases hlt : k < l.length
    · obtain ⟨g, au, cu, rfl, hg, hcell, hrow⟩ := HV.out.at k hlt
      have hb := HSH.out _ (List.getElem_mem hlt)
      have cx : wr.cell? ⟨g, k, none⟩ = some (.slice au l[k].length cu) := (hBr.cell (p := ⟨g, k, none⟩) hg).trans hcell
      have hrow2 : RowIn wr 0 wr.heap.size (.slice au l[k].length cu) l[k].length (chsCells l[k]) := (hrow.keep fun g' o _ hg' => belowS hBr hg').wide (Nat.zero_le _) hsr
      have cK := writeGroup_any (.slice au l[k].length cu) l[k] wr hrow2 hb
      obtain ⟨t, ht⟩ : ∃ t : List UInt8, t = (M.printedS [32, 124, 32]) l[k] := ⟨_, rfl⟩
      rw [← ht] at cK
      have HT : Hid (ts ++ [t] = (l.take (k + 1)).map (M.printedS [32, 124, 32])) := by
        show _ = _
        rw [List.take_succ_eq_append_getElem hlt, List.map_append, ht, HR.out]; rfl
      clear hcell hrow hrow2 hb ht
      go_wp2_with fail
      refine cK.mono ?_
      rintro e w2 ⟨rfl, hB2⟩
      clear cK
      have hown2 := own_below hown hB2
      have hs2 := hB2.size
      go_wp2_with (at_builtin; refine wpList_append_own _ rfl _ _ 43 rfl w.heap.size 9 i0 (.string ⟨#[]⟩) 1 16 Tryz.underlying43 hi0 hz0 hz1 hz2 rfl (by decide) _ _ _ rfl (hown2.alloc _) ⟨w2.heap.size, 0, none⟩ 1 1 [.string ⟨t.toArray⟩] rfl rfl ?c1 ?c2 ?c3 ?c4 ?c5 ?_)
      case c1 => exact one_new _ _ _
      case c2 => intro u hu; simp at hu; subst hu; rfl
      case c3 => unfold maxLen; omega
      case c4 => omega
      case c5 => simp; omega
      intro v' w3 hown' hgrow _
      have R1 : w3.ownsRow w.heap.size 9 1 v' (k + 1) ((ts ++ [t]).map strV) := by
        rw [List.map_append]; exact hown'
      have R2 : Below w.heap.size w w3 :=
        ((hBr.trans (hB2.mono hsr)).alloc (by omega) _).grown hgrow (by simp; omega) (fun j hj => (hown.lt j hj).1)
      clear hown' hgrow hown hown2
      go_wp2
      go_roundw
      case rel => exact ⟨_, k + 1, by go_num, by omega, by simp; omega, R1, R2, HT⟩
      case measure => simp [intOf]; omega
    · have hkk : k = l.length := by omega
      have HR2 := HR.out
      rw [hkk, List.take_length] at HR2
      subst HR2
      have hown' := hown
      rw [← hlk] at hown'
      have cJ := join_lib _ sep _ _ wr hown' (by simpa using hn) hsep (fun x hx => by
        obtain ⟨c, hcm, rfl⟩ := List.mem_map.1 hx
        have := printed_len _ (HSH.out c hcm)
        omega)
      obtain ⟨aw, cw, ew⟩ := own_form hown
      subst ew
      subst hkk
      clear hown hown' HR hlk hk hlt
      go_wp2_with fail
      refine cJ.mono ?_
      rintro e w9 ⟨rfl, hB9⟩
      go_wp2
      go_ret
      exact ⟨rfl, bt hBr hB9⟩
end Go.Proofs.YtgnfknjopafngaaGreatDoor
namespace Go.Proofs.YtgnfknjopafngaaGreatDoor
open Go.RowKit
def flText (f : M.Fl) : List UInt8 := [102, 105, 108, 101, 32] ++ f.path ++ [61] ++ f.content
set_option maxRecDepth 100000 in
set_option maxHeartbeats 2000000 in
theorem writeFile_walk (P C : ByteArray) (w : World) (hP : P.size ≤ 8000) (hC : C.size ≤ 8000) :
    Calls Tryz.prog 93 #[.agg #[.string P, .string C]] w fun e w' => ∃ T : ByteArray, e = .returned (.string T) ∧ T.data.toList = [102, 105, 108, 101, 32] ++ P.data.toList ++ [61] ++ C.data.toList ∧ Below w.heap.size w w' := by
  go_enter Tryz.func93, Tryz.ntmps93
  go_wp2
  go_ret
  refine ⟨_, rfl, ?_, (Below.refl _ w).alloc (Nat.le_refl _) _⟩
  simp only [cat_toList]
  rfl
theorem writeFile_any (f : M.Fl) (w : World) (hP : f.path.length ≤ 8000) (hC : f.content.length ≤ 8000) :
    Calls Tryz.prog 93 #[.agg #[.string ⟨f.path.toArray⟩, .string ⟨f.content.toArray⟩]] w fun e w' => e = .returned (.string ⟨(flText f).toArray⟩) ∧ Below w.heap.size w w' := by
  have sz : ∀ l : List UInt8, (ByteArray.mk l.toArray).size = l.length := fun l => by rw [← len_data]
  refine (writeFile_walk ⟨f.path.toArray⟩ ⟨f.content.toArray⟩ w (by rw [sz]; exact hP) (by rw [sz]; exact hC)).mono fun e w' h => ?_
  obtain ⟨T, h1, h2, h3⟩ := h
  refine ⟨?_, h3⟩
  rw [h1]
  have : T = ⟨(flText f).toArray⟩ := bytes_of h2
  rw [this]
set_option maxRecDepth 100000 in
set_option maxHeartbeats 2000000 in
theorem writeFiles_any (v : Value) (l : List M.Fl) (sep : ByteArray) (w : World) (hv : RowIn w 0 w.heap.size v l.length (flsCells l)) (hn : l.length ≤ 1000) (hsh : ∀ f ∈ l, f.path.length ≤ 8000 ∧ f.content.length ≤ 8000) (hsep : sep.size ≤ 1000) :
    Calls Tryz.prog 92 #[v, .string sep, .func (.func 93) #[] #[]] w fun e w' => e = .returned (.string ⟨(M.joinS sep.data.toList (l.map flText)).toArray⟩) ∧ Below w.heap.size w w' := by
  obtain ⟨i0, hi0, hz0, hz1, hz2⟩ := info_parts infoStr
  obtain ⟨av, cv, ev⟩ := hv.form
  subst ev
  have HSH : Hid (∀ f ∈ l, f.path.length ≤ 8000 ∧ f.content.length ≤ 8000) := hsh
  have HV : Hid (RowIn w 0 w.heap.size (.slice av l.length cv) l.length (flsCells l)) := hv
  have eR : ∀ args w, (callFunc 93 args).run Tryz.prog w = .ok (.enter 93 args) w := enters_of Tryz.func93 (by kernel_rfl) rfl
  clear hsh hv
  go_enter Tryz.func92, Tryz.ntmps92
  go_wp2_with fail
  go_loopw [7, 9, 12] (fun v _ i wr => ∃ (ts : List (List UInt8)) (k : Nat), i = .int .i64 k ∧ k ≤ l.length ∧ ts.length = k ∧ wr.ownsRow w.heap.size 9 1 v k (ts.map strV) ∧ Below w.heap.size w wr ∧ Hid (ts = (l.take k).map flText)) (fun _ _ i _ => l.length - (intOf i).toNat)
  case atStart => exact ⟨[], 0, rfl, Nat.zero_le _, rfl, World.ownsRow_nil _ _ _ _, Below.refl _ _, rfl⟩
  case round =>
    obtain ⟨ts, k, rfl, hk, hlk, hown, hBr, HR⟩ := hrel
    have hsr := hBr.size
    by_cases hlt : k < l.length
    · obtain ⟨g, rfl, hg, hcap, hc⟩ := HV.out.cellAt (by omega)
      have k0 := fl_cell hlt
      have k1 := fl_cell2 hlt
      rw [Nat.mul_comm] at k0 k1
      have hb := HSH.out _ (List.getElem_mem hlt)
      have cx : wr.cell? ⟨g, k * 2, none⟩ = some (.string ⟨l[k].path.toArray⟩) := (hBr.cell (p := ⟨g, k * 2, none⟩) hg).trans (hc _ _ k0)
      have cy : wr.cell? ⟨g, k * 2 + 1, none⟩ = some (.string ⟨l[k].content.toArray⟩) := (hBr.cell (p := ⟨g, k * 2 + 1, none⟩) hg).trans (hc _ _ k1)
      have cK := fun wx => writeFile_any l[k] wx hb.1 hb.2
      obtain ⟨t, ht⟩ : ∃ t : List UInt8, t = flText l[k] := ⟨_, rfl⟩
      rw [← ht] at cK
      have HT : Hid (ts ++ [t] = (l.take (k + 1)).map flText) := by
        show _ = _
        rw [List.take_succ_eq_append_getElem hlt, List.map_append, ht, HR.out]; rfl
      clear hc k0 k1 hb ht
      go_wp2_with fail
      refine (cK _).mono ?_
      rintro e w2 ⟨rfl, hB2⟩
      clear cK
      replace hB2 : Below wr.heap.size wr w2 := bt ((Below.refl _ wr).alloc (Nat.le_refl _) _) hB2
      have hown2 := own_below hown hB2
      have hs2 := hB2.size
      go_wp2_with (at_builtin; refine wpList_append_own _ rfl _ _ 43 rfl w.heap.size 9 i0 (.string ⟨#[]⟩) 1 16 Tryz.underlying43 hi0 hz0 hz1 hz2 rfl (by decide) _ _ _ rfl (hown2.alloc _) ⟨w2.heap.size, 0, none⟩ 1 1 [.string ⟨t.toArray⟩] rfl rfl ?c1 ?c2 ?c3 ?c4 ?c5 ?_)
      case c1 => exact one_new _ _ _
      case c2 => intro u hu; simp at hu; subst hu; rfl
      case c3 => unfold maxLen; omega
      case c4 => omega
      case c5 => simp; omega
      intro v' w3 hown' hgrow _
      have R1 : w3.ownsRow w.heap.size 9 1 v' (k + 1) ((ts ++ [t]).map strV) := by
        rw [List.map_append]; exact hown'
      have R2 : Below w.heap.size w w3 :=
        ((hBr.trans (hB2.mono hsr)).alloc (by omega) _).grown hgrow (by simp; omega) (fun j hj => (hown.lt j hj).1)
      clear hown' hgrow hown hown2
      go_wp2
      go_roundw
      case rel => exact ⟨_, k + 1, by go_num, by omega, by simp; omega, R1, R2, HT⟩
      case measure => simp [intOf]; omega
    · have hkk : k = l.length := by omega
      have HR2 := HR.out
      rw [hkk, List.take_length] at HR2
      subst HR2
      have hown' := hown
      rw [← hlk] at hown'
      have cJ := join_lib _ sep _ _ wr hown' (by simpa using hn) hsep (fun x hx => by
        obtain ⟨c, hcm, rfl⟩ := List.mem_map.1 hx
        have := HSH.out c hcm
        unfold flText
        simp only [List.length_append, List.length_cons, List.length_nil]
        omega)
      obtain ⟨aw, cw, ew⟩ := own_form hown
      subst ew
      subst hkk
      clear hown hown' HR hlk hk hlt
      go_wp2_with fail
      refine cJ.mono ?_
      rintro e w9 ⟨rfl, hB9⟩
      go_wp2
      go_ret
      exact ⟨rfl, bt hBr hB9⟩
end Go.Proofs.YtgnfknjopafngaaGreatDoor
