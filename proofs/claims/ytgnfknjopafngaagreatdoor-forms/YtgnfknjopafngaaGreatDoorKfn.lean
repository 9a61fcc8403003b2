import Derived.Test.YtgnfknjopafngaaGreatDoorKfm
import Derived.Test.YtgnfknjopafngaaGreatDoorKfl
namespace Go.Proofs.YtgnfknjopafngaaGreatDoor
open Go.RowKit Go.Extern.Stop Go.Stop Go.Extern
def ErrLaid (w : World) : Prop := w.cell? ⟨0, 0, none⟩ = some (.iface 221 (.agg #[.pointer (some ⟨4, 67, none⟩)]))
theorem ErrLaid.pos {w : World} (hg : ErrLaid w) : 0 < w.heap.size := by
  unfold ErrLaid at hg
  rcases Nat.eq_zero_or_pos w.heap.size with h0 | h
  · simp [World.cell?, h0] at hg
  · exact h
theorem ErrLaid.below {w w' : World} (hg : ErrLaid w) (hb : Below w.heap.size w w') : ErrLaid w' := (hb.cell (p := ⟨0, 0, none⟩) hg.pos).trans hg
set_option maxRecDepth 100000 in
set_option maxHeartbeats 4000000 in
theorem as_hit (e t : Addr) (old : Value) (w : World) (hg0 : ErrLaid w) (ht0 : w.cell? t = some old) (hf0 : w.frozen? t = false) :
    Calls Tryz.prog 57 #[.iface 112 (.pointer (some e)), .iface 114 (.pointer (some t))] w fun ev w' => ev = .returned (.bool true) ∧ ∃ W, Below w.heap.size w W ∧ w' = W.setCell t (.pointer (some e)) := by
  have hlt := hg0.pos
  have hg : w.cell? ⟨0, 0, none⟩ = some (.iface 221 (.agg #[.pointer (some ⟨4, 67, none⟩)])) := hg0
  have h6 := @callE Tryz.prog 95 _ Tryz.func95 (by kernel_rfl) (by kernel_rfl) (by kernel_rfl) (by kernel_rfl)
  have h7 := @callE Tryz.prog 96 _ Tryz.func96 (by kernel_rfl) (by kernel_rfl) (by kernel_rfl) (by kernel_rfl)
  have h8 := @callE Tryz.prog 97 _ Tryz.func97 (by kernel_rfl) (by kernel_rfl) (by kernel_rfl) (by kernel_rfl)
  have h27 := @callE Tryz.prog 316 _ Tryz.func316 (by kernel_rfl) (by kernel_rfl) (by kernel_rfl) (by kernel_rfl)
  have h37 := @callE Tryz.prog 334 _ Tryz.func334 (by kernel_rfl) (by kernel_rfl) (by kernel_rfl) (by kernel_rfl)
  have h38 := @callE Tryz.prog 335 _ Tryz.func335 (by kernel_rfl) (by kernel_rfl) (by kernel_rfl) (by kernel_rfl)
  have h10 := @callE Tryz.prog 99 _ Tryz.func99 (by kernel_rfl) (by kernel_rfl) (by kernel_rfl) (by kernel_rfl)
  have h35 := @callE Tryz.prog 332 _ Tryz.func332 (by kernel_rfl) (by kernel_rfl) (by kernel_rfl) (by kernel_rfl)
  have h11 := @callE Tryz.prog 145 _ Tryz.func145 (by kernel_rfl) (by kernel_rfl) (by kernel_rfl) (by kernel_rfl)
  have h12 := @callE Tryz.prog 146 _ Tryz.func146 (by kernel_rfl) (by kernel_rfl) (by kernel_rfl) (by kernel_rfl)
  have tO := gTypeOf
  have mA := gMethodAssignableTo
  have a25 := gAssignable
  have v25 := gValueOfP
  have f6 := gValueOfPP
  have f7 := gType
  have mK := gMethodKind
  have mE := gMethodElem
  have mI := gMethodImplements
  have k27 := gKindPP
  have k25 := gKindP
  have e27 := gElem
  have i25 := gImplements
  have n8 := gIsNil ⟨w.heap.size, 0, none⟩ t ((w.alloc (.cells #[.pointer (some t)] 114)).alloc (.cells #[.pointer (some ⟨4, 114, none⟩), .pointer (some ⟨w.heap.size, 0, none⟩), .int .u64 150] 165)) (by simp)
  have hg2 : ((w.alloc (.cells #[.pointer (some t)] 114)).alloc (.cells #[.pointer (some ⟨4, 114, none⟩), .pointer (some ⟨w.heap.size, 0, none⟩), .int .u64 150] 165)).cell? ⟨0, 0, none⟩ = some (.iface 221 (.agg #[.pointer (some ⟨4, 67, none⟩)])) := by
    rw [World.cell?_alloc_lt _ _ ⟨0, 0, none⟩ (by simp), World.cell?_alloc_lt _ _ ⟨0, 0, none⟩ hlt]; exact hg
  have htl : t.block < w.heap.size := by
    rcases Nat.lt_or_ge t.block w.heap.size with h | h
    · exact h
    · simp [World.cell?, Array.getElem?_eq_none h] at ht0
  have el := gElemV ⟨w.heap.size, 0, none⟩ t (((w.alloc (.cells #[.pointer (some t)] 114)).alloc (.cells #[.pointer (some ⟨4, 114, none⟩), .pointer (some ⟨w.heap.size, 0, none⟩), .int .u64 150] 165)).alloc (.cells #[.pointer (some ⟨4, 114, none⟩), .pointer (some ⟨w.heap.size, 0, none⟩), .int .u64 150] 165)) (by rw [World.cell?_alloc_lt _ _ ⟨w.heap.size, 0, none⟩ (by simp; omega)]; simp)
  have st := gSet t ⟨w.heap.size + 1 + 1 + 1, 0, none⟩ e old ((((w.alloc (.cells #[.pointer (some t)] 114)).alloc (.cells #[.pointer (some ⟨4, 114, none⟩), .pointer (some ⟨w.heap.size, 0, none⟩), .int .u64 150] 165)).alloc (.cells #[.pointer (some ⟨4, 114, none⟩), .pointer (some ⟨w.heap.size, 0, none⟩), .int .u64 150] 165)).alloc (.cells #[.pointer (some e)] 112))
    (by rw [World.cell?_alloc_at _ _ _ _ (by simp)]; rfl)
    (by rw [World.cell?_alloc_lt _ _ t (by simp; omega), World.cell?_alloc_lt _ _ t (by simp; omega), World.cell?_alloc_lt _ _ t (by simp; omega), World.cell?_alloc_lt _ _ t htl]; exact ht0)
    (by rw [World.frozen?_alloc_old _ _ t (by simp; omega), World.frozen?_alloc_old _ _ t (by simp; omega), World.frozen?_alloc_old _ _ t (by simp; omega), World.frozen?_alloc_old _ _ t (Nat.ne_of_lt htl)]; exact hf0)
  go_enter Tryz.func57, Tryz.ntmps57
  go_wp2
  refine wp_loop_rounds 1 ?_
  rw [rounds_succ]
  go_wp2
  go_ret
  refine ⟨rfl, _, ?_, rfl⟩
  exact ((((Below.refl _ w).alloc (Nat.le_refl _) _).alloc (by simp) _).alloc (by simp; omega) _).alloc (by simp; omega) _
end Go.Proofs.YtgnfknjopafngaaGreatDoor
namespace Go.Proofs.YtgnfknjopafngaaGreatDoor
open Go.RowKit
theorem cat_toList (a b : ByteArray) : (a ++ b).data.toList = a.data.toList ++ b.data.toList := by rw [ByteArray.data_append]; simp
theorem ch_cell : ∀ {l : List M.Ch} {k : Nat} (hk : k < l.length), (chsCells l)[k * 3]? = some (strV l[k].name) ∧ (chsCells l)[k * 3 + 1]? = some (strV l[k].sign) ∧ (chsCells l)[k * 3 + 2]? = some (strV l[k].ver)
  | [], k, hk => by simp at hk
  | c :: l, 0, hk => by simp [chsCells, chCells]
  | c :: l, k + 1, hk => by
    have ih := ch_cell (l := l) (k := k) (by simpa using hk)
    have e : chsCells (c :: l) = strV c.name :: strV c.sign :: strV c.ver :: chsCells l := rfl
    rw [e, show (k + 1) * 3 = k * 3 + 1 + 1 + 1 by omega]
    exact ih
theorem printed_go (sep S T : ByteArray) (l : List M.Ch) (k : Nat) (hk : k < l.length) (hS : S.data.toList = M.printedS sep.data.toList (l.take k)) (hT : T.data.toList = M.chText l[k]) :
    (k = 0 → T.data.toList = M.printedS sep.data.toList (l.take (k + 1))) ∧ (0 < k → S.data.toList ++ sep.data.toList ++ T.data.toList = M.printedS sep.data.toList (l.take (k + 1))) := by
  refine ⟨fun e => ?_, fun h0 => ?_⟩
  · subst e
    rw [hT, List.take_add_one, List.getElem?_eq_getElem hk]
    simp [M.printedS, M.joinS]
  · rw [hS, hT, List.take_add_one, List.getElem?_eq_getElem hk]
    unfold M.printedS
    rw [Option.toList_some, List.map_append, List.map_cons, List.map_nil, M.joinS_snoc _ _ _ (by
      intro e
      have := congrArg List.length e
      rw [List.length_map, List.length_take, List.length_nil] at this; omega)]
def ShortC (l : List M.Ch) : Prop := l.length ≤ 1000 ∧ ∀ c ∈ l, c.name.length ≤ 8000 ∧ c.sign.length ≤ 8000 ∧ c.ver.length ≤ 8000
set_option maxRecDepth 100000 in
set_option maxHeartbeats 1000000 in
theorem printed_any (v : Value) (l : List M.Ch) (sep : ByteArray) (w : World) (lo hi : Nat) (hv : RowIn w lo hi v l.length (chsCells l)) (hsh : ShortC l) (hsep : sep.size ≤ 1000) :
    Calls Tryz.prog 38 #[v, .string sep] w fun e w' => ∃ S : ByteArray, e = .returned (.string S) ∧ S.data.toList = M.printedS sep.data.toList l ∧ S.size ≤ 500000000 ∧ ∃ n, w' = w.drewN n := by
  obtain ⟨av, cv, ev⟩ := hv.form
  subst ev
  obtain ⟨hn, hsh⟩ := hsh
  have HSH : Hid (∀ c ∈ l, c.name.length ≤ 8000 ∧ c.sign.length ≤ 8000 ∧ c.ver.length ≤ 8000) := hsh
  clear hsh
  go_enter Tryz.func38, Tryz.ntmps38
  go_wp2
  go_loopw [5, 6] (fun t i wr => ∃ (S : ByteArray) (k n : Nat), t = .string S ∧ i = .int .i64 k ∧ k ≤ l.length ∧ S.size ≤ k * 400000 ∧ wr = w.drewN n ∧ Hid (S.data.toList = M.printedS sep.data.toList (l.take k))) (fun _ i _ => l.length - (intOf i).toNat)
  case atStart => exact ⟨⟨#[]⟩, 0, 0, rfl, rfl, Nat.zero_le _, Nat.zero_le _, rfl, rfl⟩
  case round =>
    obtain ⟨S, k, n, rfl, rfl, hk, hSs, rfl, HS⟩ := hrel
    by_cases hlt : k < l.length
    · obtain ⟨_, h0, _⟩ | ⟨g, cap, e, _, _, _, hc⟩ := hv
      · omega
      · obtain ⟨rfl, -, rfl⟩ : av = some ⟨g, 0, none⟩ ∧ True ∧ cv = cap := by cases e; exact ⟨rfl, trivial, rfl⟩
        clear e
        obtain ⟨k0, k1, k2⟩ := ch_cell hlt
        have hb := HSH.out _ (List.getElem_mem hlt)
        obtain ⟨X, hX⟩ : ∃ X : ByteArray, X = ⟨l[k].name.toArray⟩ := ⟨_, rfl⟩
        obtain ⟨Y, hY⟩ : ∃ X : ByteArray, X = ⟨l[k].sign.toArray⟩ := ⟨_, rfl⟩
        obtain ⟨Z, hZ⟩ : ∃ X : ByteArray, X = ⟨l[k].ver.toArray⟩ := ⟨_, rfl⟩
        have hXs : X.size ≤ 8000 := by rw [hX]; exact hb.1
        have hYs : Y.size ≤ 8000 := by rw [hY]; exact hb.2.1
        have hZs : Z.size ≤ 8000 := by rw [hZ]; exact hb.2.2
        have cx : w.cell? ⟨g, k * 3, none⟩ = some (.string X) := by rw [hX]; exact hc _ _ k0
        have cy : w.cell? ⟨g, k * 3 + 1, none⟩ = some (.string Y) := by rw [hY]; exact hc _ _ k1
        have cz : w.cell? ⟨g, k * 3 + 2, none⟩ = some (.string Z) := by rw [hZ]; exact hc _ _ k2
        have HG := fun T hT => printed_go sep S T l k hlt HS.out hT
        replace HG : Hid _ := HG
        have HT : Hid (M.chText l[k] = if Y.toList.isEmpty = true then X.data.toList else X.data.toList ++ [32, 40] ++ Y.data.toList ++ [32] ++ Z.data.toList ++ [41]) := by
          show _ = _
          rw [Lib.toList_data, hX, hY, hZ]
          show (if l[k].sign = [] then _ else _) = (if l[k].sign.isEmpty = true then _ else _)
          by_cases q : l[k].sign = []
          · rw [if_pos q, if_pos (by rw [q]; rfl)]
          · rw [if_neg q, if_neg (by rw [List.isEmpty_iff]; exact q)]
        clear hX hY hZ hc k0 k1 k2 hb
        by_cases hs : Y.toList.isEmpty = true
        · have HT2 : Hid (X.data.toList = M.chText l[k]) := by show _ = _; rw [HT.out, if_pos hs]
          by_cases hk0 : k = 0
          · have hk0' : ¬ (0 : Int) < k := by omega
            have HK : Hid (k = 0) := hk0
            have HSe : Hid (S.data.toList = []) := by show _ = _; rw [HS.out, hk0]; rfl
            clear hk0
            go_wp2
            go_roundw
            case rel => exact ⟨_, k + 1, n, rfl, by go_num, by omega, by rw [ByteArray.size_append]; omega, rfl, by show _ = _; rw [cat_toList, HSe.out, List.nil_append]; exact (HG.out X HT2.out).1 HK.out⟩
            case measure => simp [intOf]; omega
          · have hk0' : (0 : Int) < k := by omega
            have HK : Hid (0 < k) := by show _ < _; omega
            clear hk0
            go_wp2
            go_roundw
            case rel => exact ⟨_, k + 1, n, rfl, by go_num, by omega, by rw [ByteArray.size_append, ByteArray.size_append]; omega, rfl, by show _ = _; rw [cat_toList, cat_toList]; exact (HG.out X HT2.out).2 HK.out⟩
            case measure => simp [intOf]; omega
        · have hs' : Y.toList.isEmpty = false := by simpa using hs
          have HT2 : Hid (∀ T : ByteArray, T.data.toList = X.data.toList ++ [32, 40] ++ Y.data.toList ++ [32] ++ Z.data.toList ++ [41] → T.data.toList = M.chText l[k]) := fun T hT => by rw [HT.out, if_neg hs]; exact hT
          clear hs
          by_cases hk0 : k = 0
          · have hk0' : ¬ (0 : Int) < k := by omega
            have HK : Hid (k = 0) := hk0
            have HSe : Hid (S.data.toList = []) := by show _ = _; rw [HS.out, hk0]; rfl
            clear hk0
            go_wp2
            go_quiet (fail)
            go_wp2
            go_roundw
            case rel =>
              refine ⟨_, k + 1, _, rfl, by go_num, by omega, ?_, by first | exact drewN_add _ _ _ | rfl, ?_⟩
              · simp only [ByteArray.size_append]
                have e1 : (⟨#[32, 40]⟩ : ByteArray).size = 2 := rfl
                have e2 : (⟨#[32]⟩ : ByteArray).size = 1 := rfl
                have e3 : (⟨#[41]⟩ : ByteArray).size = 1 := rfl
                omega
              · show _ = _
                have := (HG.out (X ++ ⟨#[32, 40]⟩ ++ Y ++ ⟨#[32]⟩ ++ Z ++ ⟨#[41]⟩) (HT2.out _ (by simp only [cat_toList]))).1 HK.out
                rw [← this]
                simp only [cat_toList, HSe.out, List.nil_append]
            case measure => simp [intOf]; omega
          · have hk0' : (0 : Int) < k := by omega
            have HK : Hid (0 < k) := by show _ < _; omega
            clear hk0
            go_wp2
            go_quiet (fail)
            go_wp2
            go_roundw
            case rel =>
              refine ⟨_, k + 1, _, rfl, by go_num, by omega, ?_, by first | exact drewN_add _ _ _ | rfl, ?_⟩
              · simp only [ByteArray.size_append]
                have e1 : (⟨#[32, 40]⟩ : ByteArray).size = 2 := rfl
                have e2 : (⟨#[32]⟩ : ByteArray).size = 1 := rfl
                have e3 : (⟨#[41]⟩ : ByteArray).size = 1 := rfl
                omega
              · show _ = _
                have := (HG.out (X ++ ⟨#[32, 40]⟩ ++ Y ++ ⟨#[32]⟩ ++ Z ++ ⟨#[41]⟩) (HT2.out _ (by simp only [cat_toList]))).2 HK.out
                rw [← this]
                simp only [cat_toList, List.append_assoc]
            case measure => simp [intOf]; omega
    · have HE : Hid (l.take k = l) := List.take_of_length_le (by omega)
      go_wp2
      go_ret
      exact ⟨S, rfl, by rw [HS.out, HE.out], by omega, n, rfl⟩
end Go.Proofs.YtgnfknjopafngaaGreatDoor
namespace Go.Proofs.YtgnfknjopafngaaGreatDoor
open Go.RowKit
structure ShortP (p : M.Pk) : Prop where
  name : p.name.length ≤ 8000
  ver : p.ver.length ≤ 8000
  needn : p.needs.length ≤ 1000
  needs : ∀ l ∈ p.needs, ShortC l
  bars : ShortC p.bars
  filen : p.files.length ≤ 1000
  files : ∀ f ∈ p.files, f.path.length ≤ 8000 ∧ f.content.length ≤ 8000
namespace M
def headS (p : Pk) : List UInt8 := [112, 97, 99, 107, 97, 103, 101, 32] ++ p.name ++ [32] ++ p.ver
end M
theorem needs_go (l : List (List M.Ch)) (k : Nat) (hk : k < l.length) (S T H : List UInt8) (hS : S = H ++ M.needsText (l.take k)) (hT : T = M.printedS [32, 124, 32] l[k]) :
    (k = 0 → S ++ [10, 110, 101, 101, 100, 115, 32] ++ T = H ++ M.needsText (l.take (k + 1))) ∧ (0 < k → S ++ [44, 32] ++ T = H ++ M.needsText (l.take (k + 1))) := by
  have e2 : l.take (k + 1) = l.take k ++ [l[k]] := by rw [List.take_add_one, List.getElem?_eq_getElem hk]; rfl
  refine ⟨fun e => ?_, fun h0 => ?_⟩
  · subst e
    rw [hS, hT, e2]
    simp [M.needsText, M.joinS]
  · have hne : l.take k ≠ [] := by
      intro e
      have := congrArg List.length e
      rw [List.length_take, List.length_nil] at this; omega
    rw [hS, hT, e2]
    unfold M.needsText
    rw [if_neg hne, if_neg (List.append_ne_nil_of_right_ne_nil _ (List.cons_ne_nil _ _)), List.map_append, List.map_cons, List.map_nil, M.joinS_snoc _ _ _ (by intro e; exact hne (List.map_eq_nil_iff.mp e))]
    simp only [List.append_assoc]
theorem files_go (l : List M.Fl) (k : Nat) (hk : k < l.length) (S H : List UInt8) (hS : S = H ++ (l.take k).flatMap M.fileText) :
    S ++ [10, 102, 105, 108, 101, 32] ++ l[k].path ++ [61] ++ l[k].content = H ++ (l.take (k + 1)).flatMap M.fileText := by
  have e2 : l.take (k + 1) = l.take k ++ [l[k]] := by rw [List.take_add_one, List.getElem?_eq_getElem hk]; rfl
  rw [hS, e2, List.flatMap_append]
  simp [M.fileText]
theorem NeedsIn.at {w : World} {hi : Nat} {a : Option Addr} {n c : Nat} {l : List (List M.Ch)} (h : NeedsIn w 0 hi (.slice a n c) l) (k : Nat) (hk : k < l.length) :
    ∃ g au cu, a = some ⟨g, 0, none⟩ ∧ g < hi ∧ w.cell? ⟨g, k, none⟩ = some (.slice au l[k].length cu) ∧ RowIn w 0 hi (.slice au l[k].length cu) l[k].length (chsCells l[k]) := by
  obtain ⟨vs, h1, h2, h3⟩ := h
  obtain ⟨u, hu, hr⟩ := h3 k _ (List.getElem?_eq_getElem hk)
  obtain ⟨au, cu, e⟩ := hr.form
  obtain ⟨_, h0, _⟩ | ⟨g, cap, e1, _, _, hg, hc⟩ := h1
  · omega
  · cases e1
    exact ⟨g, au, cu, rfl, hg.1, by rw [hc k u hu, e], by rw [← e]; exact hr⟩
theorem RowIn.cellAt {w : World} {hi : Nat} {a : Option Addr} {n c m : Nat} {xs : List Value} (h : RowIn w 0 hi (.slice a n c) m xs) (hm : 0 < m) :
    ∃ g, a = some ⟨g, 0, none⟩ ∧ g < hi ∧ n ≤ c ∧ ∀ j u, xs[j]? = some u → w.cell? ⟨g, j, none⟩ = some u := by
  obtain ⟨_, h0, _⟩ | ⟨g, cap, e1, e2, _, hg, hc⟩ := h
  · omega
  · cases e1
    exact ⟨g, rfl, hg.1, e2, hc⟩
set_option maxRecDepth 100000 in
set_option maxHeartbeats 1000000 in
theorem print_any (p : M.Pk) (v : Value) (w : World) (hv : PkVal w p v) (hp : ShortP p) :
    Calls Tryz.prog 16 #[v] w fun e w' => ∃ S : ByteArray, e = .returned (.string S) ∧ S.data.toList = M.printS p ∧ Below w.heap.size w w' := by
  obtain ⟨nv, bv, fv, rfl, hn, hb, hf⟩ := hv
  obtain ⟨an, cn, rfl⟩ := hn.form
  obtain ⟨ab, cb, rfl⟩ := hb.form
  obtain ⟨af, cf, rfl⟩ := hf.form
  obtain ⟨X, hX⟩ : ∃ X : ByteArray, X = ⟨p.name.toArray⟩ := ⟨_, rfl⟩
  obtain ⟨Y, hY⟩ : ∃ X : ByteArray, X = ⟨p.ver.toArray⟩ := ⟨_, rfl⟩
  have hXs : X.size ≤ 8000 := by rw [hX]; exact hp.name
  have hYs : Y.size ≤ 8000 := by rw [hY]; exact hp.ver
  have hnl := hp.needn
  have hfl := hp.filen
  have hbl := hp.bars.1
  rw [← hX, ← hY]
  have HX : Hid (X.data.toList = p.name) := by show _ = _; rw [hX]
  have HY : Hid (Y.data.toList = p.ver) := by show _ = _; rw [hY]
  clear hX hY
  replace hn : Hid (NeedsIn w 0 w.heap.size (.slice an p.needs.length cn) p.needs) := hn
  replace hb : Hid (RowIn w 0 w.heap.size (.slice ab p.bars.length cb) p.bars.length (chsCells p.bars)) := hb
  replace hf : Hid (RowIn w 0 w.heap.size (.slice af p.files.length cf) p.files.length (flsCells p.files)) := hf
  go_enter Tryz.func16, Tryz.ntmps16
  have HH : Hid ((⟨#[112, 97, 99, 107, 97, 103, 101, 32]⟩ ++ X ++ ⟨#[32]⟩ ++ Y : ByteArray).data.toList = M.headS p) := by show _ = _; simp only [cat_toList, HX.out, HY.out]; rfl
  have HHs : Hid ((⟨#[112, 97, 99, 107, 97, 103, 101, 32]⟩ ++ X ++ ⟨#[32]⟩ ++ Y : ByteArray).size ≤ 300000) := by
    show _ ≤ _
    simp only [ByteArray.size_append]
    have e1 : (⟨#[112, 97, 99, 107, 97, 103, 101, 32]⟩ : ByteArray).size = 8 := rfl
    have e2 : (⟨#[32]⟩ : ByteArray).size = 1 := rfl
    omega
  go_wp2
  go_loopw [3, 4, 5] (fun t i _ wr => ∃ (S : ByteArray) (k : Nat), t = .string S ∧ i = .int .i64 k ∧ k ≤ p.needs.length ∧ S.size ≤ 300000 + k * 600000000 ∧ wr.cell? ⟨w.heap.size, 2, none⟩ = some (.slice an p.needs.length cn) ∧ wr.cell? ⟨w.heap.size, 3, none⟩ = some (.slice ab p.bars.length cb) ∧ wr.cell? ⟨w.heap.size, 4, none⟩ = some (.slice af p.files.length cf) ∧ Below w.heap.size w wr ∧ w.heap.size < wr.heap.size ∧ Hid (S.data.toList = M.headS p ++ M.needsText (p.needs.take k))) (fun _ i _ _ => p.needs.length - (intOf i).toNat)
  case atStart => exact ⟨_, 0, rfl, rfl, Nat.zero_le _, HHs.out, new_at _ _ _ 2 _ rfl, new_at _ _ _ 3 _ rfl, new_at _ _ _ 4 _ rfl, (Below.refl _ w).alloc (Nat.le_refl _) _, by simp, by show _ = _; rw [HH.out]; simp [M.needsText]⟩
  case round =>
    obtain ⟨S, k, rfl, rfl, hk, hSs, q2, q3, q4, hB, hz, HS⟩ := hrel
    by_cases hlt : k < p.needs.length
    · obtain ⟨g, au, cu, rfl, hg, hc, hr⟩ := NeedsIn.at hn.out k hlt
      have c1 : wr.cell? ⟨g, k, none⟩ = some (.slice au p.needs[k].length cu) := (hB.cell (p := ⟨g, k, none⟩) hg).trans hc
      have cP := printed_any _ p.needs[k] ⟨#[32, 124, 32]⟩ wr 0 w.heap.size (hr.keep (fun g o _ h => belowS hB h)) (hp.needs _ (List.getElem_mem hlt)) (by decide)
      clear hc hr
      go_wp2_with fail
      refine cP.mono ?_
      rintro e w2 ⟨T, rfl, hT, hTs, n, rfl⟩
      have HG := needs_go p.needs k hlt _ _ _ HS.out hT
      replace HG : Hid _ := HG
      clear hT cP
      by_cases hk0 : k = 0
      · have hk0' : ((k : Int) == 0) = true := by simp [hk0]
        have HK : Hid (k = 0) := hk0
        clear hk0
        go_wp2
        go_roundw
        case rel =>
          refine ⟨_, k + 1, rfl, by go_num, by omega, ?_, q2, q3, q4, below_drewN hB n, hz, ?_⟩
          · simp only [ByteArray.size_append]
            have e1 : (⟨#[10, 110, 101, 101, 100, 115, 32]⟩ : ByteArray).size = 7 := rfl
            omega
          · show _ = _
            rw [← HG.out.1 HK.out]
            simp only [cat_toList]
        case measure => simp [intOf]; omega
      · have hk0' : ((k : Int) == 0) = false := by simp [hk0]
        have HK : Hid (0 < k) := by show _ < _; omega
        clear hk0
        go_wp2
        go_roundw
        case rel =>
          refine ⟨_, k + 1, rfl, by go_num, by omega, ?_, q2, q3, q4, below_drewN hB n, hz, ?_⟩
          · simp only [ByteArray.size_append]
            have e1 : (⟨#[44, 32]⟩ : ByteArray).size = 2 := rfl
            omega
          · show _ = _
            rw [← HG.out.2 HK.out]
            simp only [cat_toList]
        case measure => simp [intOf]; omega
    · have HE : Hid (p.needs.take k = p.needs) := List.take_of_length_le (by omega)
      by_cases hb0 : 0 < p.bars.length
      · have hb0' : (0 : Int) < p.bars.length := by omega
        have cP := printed_any _ p.bars ⟨#[44, 32]⟩ wr 0 w.heap.size (RowIn.keep hb.out (fun g o _ h => belowS hB h)) hp.bars (by decide)
        go_wp2_with fail
        refine cP.mono ?_
        rintro e w2 ⟨T, rfl, hT, hTs, n, rfl⟩
        clear cP
        have HT : Hid ((S ++ ⟨#[10, 98, 97, 114, 115, 32]⟩ ++ T : ByteArray).data.toList = M.headS p ++ M.needsText p.needs ++ M.barsText p.bars) := by
          show _ = _
          simp only [cat_toList]
          rw [HS.out, hT, HE.out]
          unfold M.barsText
          rw [if_neg (by intro e; rw [e] at hb0; simp at hb0)]
          simp only [List.append_assoc]
        have HTs : Hid ((S ++ ⟨#[10, 98, 97, 114, 115, 32]⟩ ++ T : ByteArray).size ≤ 2000000000000) := by
          show _ ≤ _
          simp only [ByteArray.size_append]
          have e1 : (⟨#[10, 98, 97, 114, 115, 32]⟩ : ByteArray).size = 6 := rfl
          omega
        clear hT
        go_wp2
        obtain ⟨W0, hW0⟩ : ∃ W, W = wr := ⟨_, rfl⟩
        subst hW0
        go_loopw [3, 7] (fun t i wr => ∃ (S : ByteArray) (k : Nat), t = .string S ∧ i = .int .i64 k ∧ k ≤ p.files.length ∧ S.size ≤ 2000000000000 + k * 300000 ∧ wr.cell? ⟨w.heap.size, 4, none⟩ = some (.slice af p.files.length cf) ∧ Below w.heap.size w wr ∧ Hid (S.data.toList = M.headS p ++ M.needsText p.needs ++ M.barsText p.bars ++ (p.files.take k).flatMap M.fileText)) (fun _ i _ => p.files.length - (intOf i).toNat)
        case atStart => exact ⟨_, 0, rfl, rfl, Nat.zero_le _, HTs.out, q4, below_drewN hB _, by show _ = _; rw [HT.out]; simp⟩
        case round =>
          obtain ⟨S2, k2, rfl, rfl, hk2, hSs2, q4', hB', HS2⟩ := hrel
          by_cases hlt2 : k2 < p.files.length
          · obtain ⟨g2, rfl, hg2, hcap, hc2⟩ := RowIn.cellAt hf.out (by omega)
            obtain ⟨P, hP⟩ : ∃ X : ByteArray, X = ⟨p.files[k2].path.toArray⟩ := ⟨_, rfl⟩
            obtain ⟨C, hC⟩ : ∃ X : ByteArray, X = ⟨p.files[k2].content.toArray⟩ := ⟨_, rfl⟩
            have hfs := hp.files _ (List.getElem_mem hlt2)
            have hPs : P.size ≤ 8000 := by rw [hP]; exact hfs.1
            have hCs : C.size ≤ 8000 := by rw [hC]; exact hfs.2
            have cp : wr.cell? ⟨g2, k2 * 2, none⟩ = some (.string P) := by rw [hP, hB'.cell (p := ⟨g2, k2 * 2, none⟩) hg2]; exact hc2 _ _ (by rw [Nat.mul_comm]; exact fl_cell hlt2)
            have cc : wr.cell? ⟨g2, k2 * 2 + 1, none⟩ = some (.string C) := by rw [hC, hB'.cell (p := ⟨g2, k2 * 2 + 1, none⟩) hg2]; exact hc2 _ _ (by rw [Nat.mul_comm]; exact fl_cell2 hlt2)
            have HG := files_go p.files k2 hlt2 _ _ HS2.out
            replace HG : Hid (S2.data.toList ++ [10, 102, 105, 108, 101, 32] ++ P.data.toList ++ [61] ++ C.data.toList = M.headS p ++ M.needsText p.needs ++ M.barsText p.bars ++ (p.files.take (k2 + 1)).flatMap M.fileText) := by show _ = _; rw [← HG, hP, hC]
            clear hP hC hc2 hfs
            go_wp2
            go_quiet (fail)
            go_wp2
            go_roundw
            case rel =>
              refine ⟨_, k2 + 1, rfl, by go_num, by omega, ?_, q4', below_drewN hB' _, ?_⟩
              · simp only [ByteArray.size_append]
                have e1 : (⟨#[10, 102, 105, 108, 101, 32]⟩ : ByteArray).size = 6 := rfl
                have e2 : (⟨#[61]⟩ : ByteArray).size = 1 := rfl
                omega
              · show _ = _
                rw [← HG.out]
                simp only [cat_toList]
            case measure => simp [intOf]; omega
          · have HE2 : Hid (p.files.take k2 = p.files) := List.take_of_length_le (by omega)
            go_wp2
            go_ret
            exact ⟨S2, rfl, by rw [HS2.out, HE2.out]; rfl, hB'⟩
      · have hb0' : ¬ (0 : Int) < p.bars.length := by omega
        have HT : Hid (S.data.toList = M.headS p ++ M.needsText p.needs ++ M.barsText p.bars) := by
          show _ = _
          rw [HS.out, HE.out]
          unfold M.barsText
          rw [if_pos (List.length_eq_zero_iff.mp (by omega)), List.append_nil]
        go_wp2
        obtain ⟨W0, hW0⟩ : ∃ W, W = wr := ⟨_, rfl⟩
        subst hW0
        go_loopw [3, 7] (fun t i wr => ∃ (S : ByteArray) (k : Nat), t = .string S ∧ i = .int .i64 k ∧ k ≤ p.files.length ∧ S.size ≤ 2000000000000 + k * 300000 ∧ wr.cell? ⟨w.heap.size, 4, none⟩ = some (.slice af p.files.length cf) ∧ Below w.heap.size w wr ∧ Hid (S.data.toList = M.headS p ++ M.needsText p.needs ++ M.barsText p.bars ++ (p.files.take k).flatMap M.fileText)) (fun _ i _ => p.files.length - (intOf i).toNat)
        case atStart => exact ⟨_, 0, rfl, rfl, Nat.zero_le _, by omega, q4, hB, by show _ = _; rw [HT.out]; simp⟩
        case round =>
          obtain ⟨S2, k2, rfl, rfl, hk2, hSs2, q4', hB', HS2⟩ := hrel
          by_cases hlt2 : k2 < p.files.length
          · obtain ⟨g2, rfl, hg2, hcap, hc2⟩ := RowIn.cellAt hf.out (by omega)
            obtain ⟨P, hP⟩ : ∃ X : ByteArray, X = ⟨p.files[k2].path.toArray⟩ := ⟨_, rfl⟩
            obtain ⟨C, hC⟩ : ∃ X : ByteArray, X = ⟨p.files[k2].content.toArray⟩ := ⟨_, rfl⟩
            have hfs := hp.files _ (List.getElem_mem hlt2)
            have hPs : P.size ≤ 8000 := by rw [hP]; exact hfs.1
            have hCs : C.size ≤ 8000 := by rw [hC]; exact hfs.2
            have cp : wr.cell? ⟨g2, k2 * 2, none⟩ = some (.string P) := by rw [hP, hB'.cell (p := ⟨g2, k2 * 2, none⟩) hg2]; exact hc2 _ _ (by rw [Nat.mul_comm]; exact fl_cell hlt2)
            have cc : wr.cell? ⟨g2, k2 * 2 + 1, none⟩ = some (.string C) := by rw [hC, hB'.cell (p := ⟨g2, k2 * 2 + 1, none⟩) hg2]; exact hc2 _ _ (by rw [Nat.mul_comm]; exact fl_cell2 hlt2)
            have HG := files_go p.files k2 hlt2 _ _ HS2.out
            replace HG : Hid (S2.data.toList ++ [10, 102, 105, 108, 101, 32] ++ P.data.toList ++ [61] ++ C.data.toList = M.headS p ++ M.needsText p.needs ++ M.barsText p.bars ++ (p.files.take (k2 + 1)).flatMap M.fileText) := by show _ = _; rw [← HG, hP, hC]
            clear hP hC hc2 hfs
            go_wp2
            go_quiet (fail)
            go_wp2
            go_roundw
            case rel =>
              refine ⟨_, k2 + 1, rfl, by go_num, by omega, ?_, q4', below_drewN hB' _, ?_⟩
              · simp only [ByteArray.size_append]
                have e1 : (⟨#[10, 102, 105, 108, 101, 32]⟩ : ByteArray).size = 6 := rfl
                have e2 : (⟨#[61]⟩ : ByteArray).size = 1 := rfl
                omega
              · show _ = _
                rw [← HG.out]
                simp only [cat_toList]
            case measure => simp [intOf]; omega
          · have HE2 : Hid (p.files.take k2 = p.files) := List.take_of_length_le (by omega)
            go_wp2
            go_ret
            exact ⟨S2, rfl, by rw [HS2.out, HE2.out]; rfl, hB'⟩
end Go.Proofs.YtgnfknjopafngaaGreatDoor
namespace Go.Proofs.YtgnfknjopafngaaGreatDoor
theorem choiceS_short {s : List UInt8} {c : M.Ch} (h : M.choiceS s = some c) (hs : s.length ≤ 8000) : c.name.length ≤ 8000 ∧ c.sign.length ≤ 8000 ∧ c.ver.length ≤ 8000 := by
  have hm := M.cutS_mem s [32]
  unfold M.choiceS at h
  split at h
  · split at h
    · cases h; exact ⟨hs, Nat.zero_le _, Nat.zero_le _⟩
    · cases h
  · rename_i p0 p1 p2 e
    rw [e] at hm
    have h0 := hm p0 (by simp)
    have h1 := hm p1 (by simp)
    have h2 := hm p2 (by simp)
    split at h
    · cases h
      refine ⟨Nat.le_trans h0 hs, ?_, ?_⟩
      · simp only [List.length_drop]; omega
      · simp only [List.length_take]; omega
    · cases h
  · cases h
theorem allS_mem {α : Type} {f : List UInt8 → Option α} : ∀ {l : List (List UInt8)} {r : List α}, M.allS f l = some r → r.length = l.length ∧ ∀ y ∈ r, ∃ x ∈ l, f x = some y
  | [], r, h => by simp only [M.allS, Option.some.injEq] at h; subst h; simp
  | s :: l, r, h => by
    simp only [M.allS] at h
    split at h
    · cases h
    · rename_i c hc
      split at h
      · cases h
      · rename_i r' hr
        cases h
        obtain ⟨h1, h2⟩ := allS_mem hr
        refine ⟨by simp [h1], fun y hy => ?_⟩
        rcases List.mem_cons.mp hy with rfl | hy
        · exact ⟨s, by simp, hc⟩
        · obtain ⟨x, hx, e⟩ := h2 y hy
          exact ⟨x, by simp [hx], e⟩
theorem choicesS_short {s sep : List UInt8} {m : Nat} {l : List M.Ch} (h : M.choicesS s sep m = some l) (hm : m ≤ 1000) (hs : s.length ≤ 8000) : ShortC l := by
  refine ⟨Nat.le_trans (choicesS_len h) hm, ?_⟩
  unfold M.choicesS at h
  split at h
  · cases h
  · rename_i r hr
    split at h
    · cases h
      intro c hc
      obtain ⟨x, hx, e⟩ := (allS_mem hr).2 c hc
      exact choiceS_short e (Nat.le_trans (M.cutS_mem _ _ x hx) hs)
    · cases h
theorem fileS_short {s : List UInt8} {f : M.Fl} (h : M.fileS s = some f) (hs : s.length ≤ 8000) : f.path.length ≤ 8000 ∧ f.content.length ≤ 8000 := by
  unfold M.fileS at h
  split at h
  · cases h
  · split at h
    · cases h
      constructor
      · simp only [List.length_take]; omega
      · simp only [List.length_drop]; omega
    · cases h
theorem titleS_short {s : List UInt8} {a b : List UInt8} (h : M.titleS s = some (a, b)) (hs : s.length ≤ 8000) : a.length ≤ 8000 ∧ b.length ≤ 8000 := by
  have hm := M.cutS_mem s [32]
  unfold M.titleS at h
  split at h
  · rename_i x y z e
    rw [e] at hm
    have h1 := hm y (by simp)
    have h2 := hm z (by simp)
    split at h
    · cases h; exact ⟨by omega, by omega⟩
    · cases h
  · cases h
theorem lineS_short {p q : M.Pk} {k : Nat} {s : List UInt8} (hp : ShortP p) (hs : s.length ≤ 8000) (h : M.lineS p k s = some q) : ShortP q := by
  unfold M.lineS at h
  split at h
  · split at h
    · cases h
    · rename_i a b e
      cases h
      have := titleS_short e hs
      exact ⟨this.1, this.2, hp.needn, hp.needs, hp.bars, hp.filen, hp.files⟩
  · split at h
    · split at h
      · cases h
      · rename_i l hl
        split at h
        · cases h
          refine ⟨hp.name, hp.ver, by show l.length ≤ _; omega, fun g hg => ?_, hp.bars, hp.filen, hp.files⟩
          obtain ⟨x, hx, e⟩ := (allS_mem hl).2 g hg
          refine choicesS_short (s := x) (sep := [32, 124, 32]) (m := 3) e (by decide) ?_
          have := M.cutS_mem _ _ x hx
          simp only [List.length_drop] at this
          omega
        · cases h
    · split at h
      · split at h
        · cases h
        · rename_i l hl
          cases h
          exact ⟨hp.name, hp.ver, hp.needn, hp.needs, choicesS_short hl (by decide) (by simp only [List.length_drop]; omega), hp.filen, hp.files⟩
      · split at h
        · rename_i hc
          split at h
          · cases h
          · rename_i f hf
            split at h
            · cases h
              refine ⟨hp.name, hp.ver, hp.needn, hp.needs, hp.bars, by simp; omega, fun g hg => ?_⟩
              rcases List.mem_append.mp hg with hg | hg
              · exact hp.files g hg
              · simp at hg
                subst hg
                exact fileS_short hf (by simp only [List.length_drop]; omega)
            · cases h
        · cases h
theorem linesS_short : ∀ {l : List (List UInt8)} {k : Nat} {p q : M.Pk}, ShortP p → (∀ x ∈ l, x.length ≤ 8000) → M.linesS l k p = .inr q → ShortP q
  | [], k, p, q, hp, _, h => by simp only [M.linesS, Sum.inr.injEq] at h; subst h; exact hp
  | s :: l, k, p, q, hp, hl, h => by
    simp only [M.linesS] at h
    split at h
    · cases h
    · rename_i p' e
      exact linesS_short (lineS_short hp (hl s (by simp)) e) (fun x hx => hl x (by simp [hx])) h
theorem swapAt_mem {α : Type} {l : List α} {k : Nat} {x : α} (h : x ∈ M.swapAt l k) : x ∈ l := by
  unfold M.swapAt at h
  split at h
  · rename_i a b ha hb
    have ia : a ∈ l := List.mem_of_getElem? ha
    have ib : b ∈ l := List.mem_of_getElem? hb
    rcases List.mem_or_eq_of_mem_set h with h | rfl
    · rcases List.mem_or_eq_of_mem_set h with h | rfl
      · exact h
      · exact ia
    · exact ib
  · exact h
theorem bub_mem : ∀ {k : Nat} {l : List M.Fl} {x : M.Fl}, x ∈ M.bub k l → x ∈ l
  | 0, l, x, h => h
  | k + 1, l, x, h => by
    unfold M.bub at h
    split at h
    · split at h
      · exact swapAt_mem (bub_mem h)
      · exact h
    · exact h
theorem srt_mem : ∀ {m i : Nat} {l : List M.Fl} {x : M.Fl}, x ∈ M.srt m i l → x ∈ l
  | 0, _, l, x, h => h
  | m + 1, i, l, x, h => by
    unfold M.srt at h
    split at h
    · exact bub_mem (srt_mem h)
    · exact h
theorem srt_len : ∀ (m i : Nat) (l : List M.Fl), (M.srt m i l).length = l.length
  | 0, _, l => rfl
  | m + 1, i, l => by
    unfold M.srt
    split
    · rw [srt_len m, M.bub_len]
    · rfl
theorem emptyShort : ShortP M.emptyPk := ⟨by simp [M.emptyPk], by simp [M.emptyPk], by simp [M.emptyPk], by simp [M.emptyPk], ⟨by simp [M.emptyPk], by simp [M.emptyPk]⟩, by simp [M.emptyPk], by simp [M.emptyPk]⟩
theorem trimS_len (s : List UInt8) : (M.trimS s).length ≤ s.length := by
  unfold M.trimS
  split
  · simp
  · exact Nat.le_refl _
theorem readS_short {s : List UInt8} {p : M.Pk} (h : M.readS s = .inr p) : ShortP p := by
  unfold M.readS at h
  split at h
  · cases h
  · rename_i h3
    split at h
    · cases h
    · rename_i q e
      cases h
      have hq := linesS_short emptyShort (fun x hx => by have := M.cutS_mem _ _ x hx; have := trimS_len s; omega) e
      exact ⟨hq.name, hq.ver, hq.needn, hq.needs, hq.bars, by show (M.sortF q.files).length ≤ _; unfold M.sortF; rw [srt_len]; exact hq.filen, fun f hf => hq.files f (srt_mem hf)⟩
end Go.Proofs.YtgnfknjopafngaaGreatDoor
