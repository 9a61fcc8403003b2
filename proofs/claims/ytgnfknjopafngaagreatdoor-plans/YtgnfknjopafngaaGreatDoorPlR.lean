import Derived.Test.YtgnfknjopafngaaGreatDoorPlQ
import Derived.Test.YtgnfknjopafngaaGreatDoorPlF
import Derived.Test.YtgnfknjopafngaaGreatDoorShelf4
/-
  THE CODE: slices.BinarySearch at names that rise: the place of a name.
-/
namespace Go.Proofs.YtgnfknjopafngaaGreatDoor
open Go.RowKit Go.Maps

theorem search_any (a : Option Addr) (cap : Nat) (xs : List (List UInt8)) (Y : ByteArray) (w : World) (hr : M.Rising xs) (hl : xs.length ≤ 1000000000) (hc : 0 < xs.length → ∃ g off, a = some ⟨g, off, none⟩ ∧ ∀ j (hj : j < xs.length), w.cell? ⟨g, off + j, none⟩ = some (.string ⟨xs[j].toArray⟩)) :
    Calls Tryz.prog 195 #[.slice a xs.length cap, .string Y] w fun e w' => ∃ b : Bool, e = .returned (.tuple #[.int .i64 (M.placeS Y.data.toList xs : Nat), .bool b]) ∧ ∃ q, w' = w.drewN q := by
  by_cases h0 : xs.length = 0
  · have e : xs = [] := List.length_eq_zero_iff.1 h0
    subst e
    refine (Any2.slices_BinarySearch_string_empty Tryz.laysNm226 a cap Y w).mono ?_
    rintro e w' ⟨rfl, rfl⟩
    exact ⟨false, rfl, 0, rfl⟩
  · obtain ⟨g, off, rfl, hcell⟩ := hc (by omega)
    have hS : ∀ j, j < xs.length → w.cell? ⟨g, off + j, none⟩ = some (.string (if h : j < xs.length then ⟨xs[j].toArray⟩ else Y)) := fun j hj => by rw [dif_pos hj]; exact hcell j hj
    have h1 : Lib.bsGo (fun t => Op.bytesLess (if h : t < xs.length then (⟨xs[t].toArray⟩ : ByteArray) else Y).toList Y.toList) xs.length 0 xs.length = M.placeS Y.data.toList xs := by
      refine Lib.bsGo_spec _ _ (fun t ht => ?_) (fun t ht => ?_) _ _ _ (by omega) (Nat.zero_le _) (M.place_le _ _)
      · have hlt : t < xs.length := Nat.lt_of_lt_of_le ht (M.place_le _ _)
        have := M.place_lt Y.data.toList xs t hlt ht
        simp only [dif_pos hlt, ByteArray.toList_eq]
        exact this
      · by_cases hlt : t < xs.length
        · have := M.place_ge Y.data.toList xs hr t hlt ht
          simp only [dif_pos hlt, ByteArray.toList_eq]
          exact this
        · simp only [dif_neg hlt]
          exact M.less_irrefl _
    refine (Any2.slices_BinarySearch_string Tryz.laysNm226 g off xs.length cap _ Y w (by omega) hS).mono ?_
    rintro e w' ⟨rfl, q, rfl⟩
    rw [h1]
    exact ⟨_, rfl, q, rfl⟩
end Go.Proofs.YtgnfknjopafngaaGreatDoor
/-
  THE CODE: slices.Insert at names: one name, at a place.
-/
namespace Go.Proofs.YtgnfknjopafngaaGreatDoor
open Go.RowKit Go.Maps

/-- A row of names that may begin within its block. -/
def MidRow (w : World) (base : Nat) (v : Value) (xs : List (List UInt8)) : Prop := ∃ a cap, v = .slice a xs.length cap ∧ xs.length ≤ cap ∧ cap ≤ maxLen ∧ ((a = none ∧ xs = [] ∧ cap = 0) ∨
  ∃ g off cur, a = some ⟨g, off, none⟩ ∧ base ≤ g ∧ w.heap[g]? = some (.cells cur 9 (0, 0)) ∧ off + cap ≤ cur.size ∧ ∀ j u, (nmCells xs)[j]? = some u → w.cell? ⟨g, off + j, none⟩ = some u)
theorem MidRow.own {w : World} {base : Nat} {v : Value} {xs : List (List UInt8)} (h : w.ownsRow base 9 1 v xs.length (nmCells xs)) : MidRow w base v xs := by
  obtain ⟨h1, ⟨rfl, h0⟩ | ⟨g, cap, cur, rfl, hb, hg, hnc, hcm, hcs, ht⟩⟩ := h
  · refine ⟨none, 0, by rw [h0], by omega, by unfold maxLen; omega, .inl ⟨rfl, List.length_eq_zero_iff.1 h0, rfl⟩⟩
  · refine ⟨_, cap, rfl, hnc, hcm, .inr ⟨g, 0, cur, rfl, hb, hg, by omega, fun j u hu => ?_⟩⟩
    rw [cell_of_row w g (0 + j) cur _ (0, 0) hg, Nat.zero_add]
    rw [← ht, List.getElem?_take] at hu
    split at hu
    · simpa using hu
    · cases hu
theorem three {W : World} {g o i : Nat} {cs : List Value} {y : Value} (hi : i ≤ cs.length) (hA : ∀ t u, t < i → cs[t]? = some u → W.cell? ⟨g, o + t, none⟩ = some u) (hB : W.cell? ⟨g, o + i, none⟩ = some y)
    (hC : ∀ t u, (cs.drop i)[t]? = some u → W.cell? ⟨g, o + (i + 1) + t, none⟩ = some u) : ∀ j u, (cs.take i ++ y :: cs.drop i)[j]? = some u → W.cell? ⟨g, o + j, none⟩ = some u := by
  intro j u hu
  rw [List.getElem?_append, List.length_take, Nat.min_eq_left hi] at hu
  split at hu
  · rename_i hj
    rw [List.getElem?_take, if_pos hj] at hu
    exact hA j u hj hu
  · rename_i hj
    by_cases e : j = i
    · subst e
      rw [Nat.sub_self] at hu
      cases hu
      exact hB
    · obtain ⟨t, ht⟩ : ∃ t, j = i + 1 + t := ⟨j - (i + 1), by omega⟩
      subst ht
      rw [show i + 1 + t - i = t + 1 by omega, List.getElem?_cons_succ] at hu
      rw [← Nat.add_assoc]
      exact hC t u hu
theorem block_setCells {g : Nat} {e : TypeId} : ∀ (vs : List Value) (o : Nat) (w : World) (cur : Array Value), w.heap[g]? = some (.cells cur e (0, 0)) → ∃ cur', (w.setCells g o vs).heap[g]? = some (.cells cur' e (0, 0)) ∧ cur'.size = cur.size
  | [], _, _, cur, h => ⟨cur, h, rfl⟩
  | v :: r, o, w, cur, h => by
    obtain ⟨cur', a, b⟩ := block_setCells r (o + 1) _ _ (heap_setCell_same w g o cur e v h)
    exact ⟨cur', a, by rw [b]; simp⟩
theorem grown_setCells {g : Nat} : ∀ (vs : List Value) (o : Nat) (w : World), w.grownBy (w.setCells g o vs) (some g)
  | [], _, _ => ⟨rfl, rfl, rfl, Nat.le_refl _, fun _ _ _ => rfl⟩
  | v :: r, o, w => by
    have h1 : w.grownBy (w.setCell ⟨g, o, none⟩ v) (some g) := ⟨rfl, rfl, rfl, by simp, fun k _ hk => Below.heap_setCell _ _ _ _ (fun e => hk (by rw [e]))⟩
    exact grown_then h1 (grown_setCells r (o + 1) _) (fun k hk => .inl (Option.some.inj hk).symm)
theorem nm_ins (xs : List (List UInt8)) (i : Nat) (Y : ByteArray) : nmCells (xs.take i ++ Y.data.toList :: xs.drop i) = (nmCells xs).take i ++ .string Y :: (nmCells xs).drop i := by
  unfold nmCells
  rw [List.map_append, List.map_cons, List.map_take, List.map_drop]
  rfl
theorem nm_one (xs : List (List UInt8)) : ∀ v ∈ nmCells xs, v.oneCell' = true := fun v hv => by
  obtain ⟨x, _, rfl⟩ := List.mem_map.1 hv
  rfl
theorem nm_len (xs : List (List UInt8)) : (nmCells xs).length = xs.length := List.length_map _
theorem ins_len (xs : List (List UInt8)) (i : Nat) (Y : ByteArray) (h : i ≤ xs.length) : (xs.take i ++ Y.data.toList :: xs.drop i).length = xs.length + 1 := by simp; omega

set_option maxHeartbeats 4000000 in
theorem insert_any (base vb i : Nat) (v : Value) (xs : List (List UInt8)) (Y : ByteArray) (w : World) (h : MidRow w base v xs) (hi : i ≤ xs.length) (hl : xs.length ≤ 1000000000) (hvb : w.heap[vb]? = some (.cells #[.string Y] 9 (0, 0))) (hne : v.ownBlock ≠ some vb) (hbase : base ≤ w.heap.size) :
    Calls Tryz.prog 196 #[v, .int .i64 i, .slice (some ⟨vb, 0, none⟩) 1 1] w fun e w' => ∃ v', e = .returned v' ∧ MidRow w' base v' (xs.take i ++ Y.data.toList :: xs.drop i) ∧ w.grownBy w' v.ownBlock ∧ (v'.ownBlock = v.ownBlock ∨ v'.ownBlock = some w.heap.size) := by
  obtain ⟨a, cap, rfl, hnc, hcm, ha⟩ := h
  have hcm' : cap ≤ 9223372036854775807 := by unfold maxLen at hcm; omega
  have hvs : ∀ j u, [Value.string Y][j]? = some u → w.cell? ⟨vb, 0 + j, none⟩ = some u := fun j u hu => by
    rw [cell_of_row w vb (0 + j) _ _ (0, 0) hvb]
    simpa using hu
  have h1v : ∀ u ∈ [Value.string Y], u.oneCell' = true := fun u hu => by
    simp only [List.mem_singleton] at hu
    subst hu
    rfl
  have hnl := nm_len xs
  -- a new row at the end
  have endGrow : i = xs.length → cap < xs.length + 1 → (∀ b, a = some b → ∀ j u, (nmCells xs)[j]? = some u → w.cell? (b.add j) = some u) → (a = none → xs.length = 0) →
      Calls Tryz.prog 196 #[.slice a xs.length cap, .int .i64 i, .slice (some ⟨vb, 0, none⟩) 1 1] w fun e w' => ∃ v', e = .returned v' ∧ MidRow w' base v' (xs.take i ++ Y.data.toList :: xs.drop i) ∧ w.grownBy w' (Value.slice a xs.length cap).ownBlock ∧ (v'.ownBlock = (Value.slice a xs.length cap).ownBlock ∨ v'.ownBlock = some w.heap.size) := by
    intro hin hroom hcs hnil
    subst hin
    refine (Any2.slices_Insert_string_end_grow Tryz.laysNm222 a xs.length cap vb 0 1 1 (nmCells xs) [.string Y] w (by omega) hnc hroom (by omega) hnl rfl hnil hcs hvs h1v).mono ?_
    rintro e w' ⟨rfl, rfl⟩
    have hge := grownCap_ge w (xs.length + 1) cap 9
    refine ⟨_, rfl, ⟨some ⟨w.heap.size, 0, none⟩, grownCap w (xs.length + 1) cap 9, by rw [ins_len _ _ _ (Nat.le_refl _)]; rfl, by rw [ins_len _ _ _ (Nat.le_refl _)]; exact hge, grownCap_le_maxLen w _ _ _ (by unfold maxLen; omega), .inr ⟨w.heap.size, 0, _, rfl, hbase, heap_alloc_new w.drew _, ?_, ?_⟩⟩, ?_, .inr rfl⟩
    · simp only [Array.size_append, List.size_toArray, size_zeroCells, List.length_append, hnl, List.length_singleton]
      show 0 + grownCap w (xs.length + 1) cap 9 ≤ xs.length + 1 + (grownCap w (xs.length + 1) cap 9 - (xs.length + 1)) * 1
      omega
    · intro j u hu
      rw [nm_ins, List.take_of_length_le (by omega), List.drop_eq_nil_of_le (by omega)] at hu
      rw [cell_of_row _ w.heap.size (0 + j) _ _ (0, 0) (heap_alloc_new w.drew _), Nat.zero_add]
      have hj : j < (nmCells xs ++ [Value.string Y]).length := (List.getElem?_eq_some_iff.1 hu).1
      rw [Array.getElem?_append_left (by simpa using hj)]
      simpa using hu
    · exact ⟨rfl, rfl, rfl, by simp, fun k hk _ => heap_alloc_old w.drew _ hk⟩
  obtain ⟨rfl, e0, rfl⟩ | ⟨g, off, cur, rfl, hb, hg, hsz, hcells⟩ := ha
  · have h0 : xs.length = 0 := by rw [e0]; rfl
    exact endGrow (by omega) (by omega) (fun b hb => by cases hb) (fun _ => h0)
  · have hvg : vb ≠ g := fun e => hne (by rw [e]; rfl)
    have hsp : ∀ j, off + j < cur.size → (w.cell? ⟨g, off + j, none⟩).isSome = true := fun j hj => by
      rw [cell_of_row w g (off + j) cur _ (0, 0) hg, Array.getElem?_eq_getElem hj]
      rfl
    have hfz : ∀ j, w.frozen? ⟨g, j, none⟩ = false := fun j => frozen_of_row w g j cur _ hg
    by_cases hin : i = xs.length
    · by_cases hroom : xs.length + 1 ≤ cap
      · subst hin
        refine (Any2.slices_Insert_string_end_room Tryz.laysNm222 g off xs.length cap vb 0 1 1 [.string Y] w (by omega) hroom hcm' rfl (fun j hj => by rw [Nat.add_assoc]; exact hsp _ (by omega)) (fun j hj => hfz _) hvs h1v).mono ?_
        rintro e w' ⟨rfl, rfl⟩
        obtain ⟨cur', hc1, hc2⟩ := block_setCells [.string Y] (off + xs.length) w cur hg
        refine ⟨_, rfl, ⟨_, cap, by rw [ins_len _ _ _ hi], by rw [ins_len _ _ _ hi]; exact hroom, hcm, .inr ⟨g, off, cur', rfl, hb, hc1, by omega, ?_⟩⟩, grown_setCells _ _ _, .inl rfl⟩
        rw [nm_ins]
        refine three (by omega) (fun t u ht hu => ?_) ?_ (fun t u hu => ?_)
        · rw [World.cell?_setCells_out g _ _ _ _ (fun _ _ => .inl (by show off + t < _; omega))]
          exact hcells t u hu
        · exact World.cell?_setCells_in g [.string Y] (off + xs.length) w (fun j hj => by rw [Nat.add_assoc]; exact hsp _ (by simp at hj; omega)) 0 (by simp)
        · rw [List.drop_eq_nil_of_le (by omega)] at hu
          cases hu
      · exact endGrow hin (by omega) (fun b hb j u hu => by
          cases hb
          rw [Addr.add_lit]
          exact hcells j u hu) (fun h => by cases h)
    · have hlt : i < xs.length := by omega
      by_cases hroom : xs.length + 1 ≤ cap
      · refine (Any2.slices_Insert_string_shift Tryz.laysNm222 g off xs.length cap i vb 0 1 1 (nmCells xs) [.string Y] w hlt (by omega) hroom hcm' hvg hnl rfl hcells (fun j hj => hsp j (by omega)) (fun j hj => hfz _) hvs (nm_one xs) h1v
          9 9 1 cur.size (by unfold World.shape?; rw [hvb]; rfl) (by unfold World.shape?; rw [hg]) (by omega) (frozen_of_row w vb _ _ _ hvb) (frozen_of_row w vb _ _ _ hvb)).mono ?_
        rintro e w' ⟨rfl, rfl⟩
        obtain ⟨cur1, hc1, hc2⟩ := block_setCells ((nmCells xs).drop i) (off + (i + 1)) w.drew cur hg
        obtain ⟨cur2, hc3, hc4⟩ := block_setCells [.string Y] (off + i) _ cur1 hc1
        have hlen : ((nmCells xs).drop i).length = xs.length - i := by rw [List.length_drop, hnl]
        refine ⟨_, rfl, ⟨_, cap, by rw [ins_len _ _ _ hi], by rw [ins_len _ _ _ hi]; exact hroom, hcm, .inr ⟨g, off, cur2, rfl, hb, hc3, by omega, ?_⟩⟩, ?_, .inl rfl⟩
        · rw [nm_ins]
          refine three (by omega) (fun t u ht hu => ?_) ?_ (fun t u hu => ?_)
          · rw [World.cell?_setCells_out g _ _ _ _ (fun _ _ => .inl (by show off + t < _; omega)), World.cell?_setCells_out g _ _ _ _ (fun _ _ => .inl (by show off + t < _; omega))]
            exact hcells t u hu
          · refine World.cell?_setCells_in g [.string Y] (off + i) _ (fun j hj => ?_) 0 (by simp)
            rw [cell_of_row _ g _ cur1 _ (0, 0) hc1, Array.getElem?_eq_getElem (by simp at hj; omega)]
            rfl
          · have htl : t < ((nmCells xs).drop i).length := (List.getElem?_eq_some_iff.1 hu).1
            rw [World.cell?_setCells_out g _ _ _ _ (fun _ _ => .inr (by show off + i + 1 ≤ off + (i + 1) + t; omega))]
            have h9 := World.cell?_setCells_in g ((nmCells xs).drop i) (off + (i + 1)) w.drew (fun j hj => by rw [Nat.add_assoc]; exact hsp _ (by omega)) t htl
            rw [h9, ← hu, List.getElem?_eq_getElem htl]
        · have h1 : w.grownBy (w.drew.setCells g (off + (i + 1)) ((nmCells xs).drop i)) (some g) := by
            have := grown_setCells (g := g) ((nmCells xs).drop i) (off + (i + 1)) w.drew
            exact ⟨this.os, this.tape, this.output, this.size, this.block⟩
          exact grown_then h1 (grown_setCells _ _ _) (fun k hk => .inl (Option.some.inj hk).symm)
      · refine (Any2.slices_Insert_string_grow Tryz.laysNm222 g off xs.length cap i vb 0 1 1 (nmCells xs) [.string Y] w hlt (by omega) hnc (by omega) (by omega) hnl rfl hcells hvs (nm_one xs) h1v).mono ?_
        rintro e w' ⟨rfl, rfl⟩
        have hge := grownCap_ge w (xs.length + 1) cap 9
        have hlen : ((nmCells xs).drop i).length = xs.length - i := by rw [List.length_drop, hnl]
        obtain ⟨K, hK⟩ : ∃ K, K = grownCap w (xs.length + 1) cap 9 := ⟨_, rfl⟩
        have hKm : K ≤ maxLen := by rw [hK]; exact grownCap_le_maxLen w _ _ _ (by unfold maxLen; omega)
        change ∃ v', Ending.returned (.slice (some ⟨w.heap.size, 0, none⟩) (xs.length + 1) (grownCap w (xs.length + 1) cap 9)) = .returned v' ∧ MidRow ((((w.alloc (.cells (((nmCells xs).take i).toArray ++ Builtin.zeroCells (Value.string ⟨#[]⟩).cells (xs.length + 1 - i) ++ Builtin.zeroCells (Value.string ⟨#[]⟩).cells (grownCap w (xs.length + 1) cap 9 - (xs.length + 1))) 9)).drew.setCells w.heap.size i [.string Y]).drew).setCells w.heap.size (i + 1) ((nmCells xs).drop i)) base v' _ ∧ w.grownBy ((((w.alloc (.cells (((nmCells xs).take i).toArray ++ Builtin.zeroCells (Value.string ⟨#[]⟩).cells (xs.length + 1 - i) ++ Builtin.zeroCells (Value.string ⟨#[]⟩).cells (grownCap w (xs.length + 1) cap 9 - (xs.length + 1))) 9)).drew.setCells w.heap.size i [.string Y]).drew).setCells w.heap.size (i + 1) ((nmCells xs).drop i)) _ ∧ (v'.ownBlock = _ ∨ v'.ownBlock = some w.heap.size)
        rw [← hK] at hge ⊢
        obtain ⟨cur0, hcur0⟩ : ∃ c0, c0 = ((nmCells xs).take i).toArray ++ Builtin.zeroCells (Value.string ⟨#[]⟩).cells (xs.length + 1 - i) ++ Builtin.zeroCells (Value.string ⟨#[]⟩).cells (K - (xs.length + 1)) := ⟨_, rfl⟩
        have hs0 : cur0.size = K := by
          rw [hcur0]
          simp only [Array.size_append, List.size_toArray, size_zeroCells, List.length_take, hnl]
          show min i xs.length + (xs.length + 1 - i) * 1 + (K - (xs.length + 1)) * 1 = K
          omega
        have hcell0 : ∀ t u, t < i → (nmCells xs)[t]? = some u → cur0[t]? = some u := fun t u ht hu => by
          rw [hcur0, Array.append_assoc, Array.getElem?_append_left (by simp; omega)]
          simp only [List.getElem?_toArray, List.getElem?_take, if_pos ht]
          exact hu
        rw [← hcur0]
        generalize hA : (w.alloc (.cells cur0 9)).drew = A1
        have hA1 : A1.heap[w.heap.size]? = some (.cells cur0 9 (0, 0)) := by rw [← hA]; exact heap_alloc_new w _
        have g1 : w.grownBy A1 (some g) := by rw [← hA]; exact ⟨rfl, rfl, rfl, by simp, fun k hk _ => heap_alloc_old w _ hk⟩
        have hspA : ∀ j, j < K → (A1.cell? ⟨w.heap.size, j, none⟩).isSome = true := fun j hj => by
          rw [cell_of_row _ _ _ _ _ (0, 0) hA1, Array.getElem?_eq_getElem (by omega)]
          rfl
        obtain ⟨cur1, hc1, hc2⟩ := block_setCells [.string Y] i A1 cur0 hA1
        obtain ⟨cur2, hc3, hc4⟩ := block_setCells ((nmCells xs).drop i) (i + 1) (A1.setCells w.heap.size i [.string Y]).drew cur1 hc1
        refine ⟨_, rfl, ⟨_, K, by rw [ins_len _ _ _ hi], by rw [ins_len _ _ _ hi]; exact hge, hKm, .inr ⟨w.heap.size, 0, cur2, rfl, hbase, hc3, by omega, ?_⟩⟩, ?_, .inr rfl⟩
        · rw [nm_ins]
          refine three (by omega) (fun t u ht hu => ?_) ?_ (fun t u hu => ?_)
          · rw [World.cell?_setCells_out _ _ _ _ _ (fun _ _ => .inl (by show 0 + t < _; omega))]
            show (A1.setCells w.heap.size i [.string Y]).cell? _ = _
            rw [World.cell?_setCells_out _ _ _ _ _ (fun _ _ => .inl (by show 0 + t < _; omega)), cell_of_row _ _ _ _ _ (0, 0) hA1, Nat.zero_add]
            exact hcell0 t u ht hu
          · rw [World.cell?_setCells_out _ _ _ _ _ (fun _ _ => .inl (by show 0 + i < _; omega))]
            show (A1.setCells w.heap.size i [.string Y]).cell? _ = _
            rw [Nat.zero_add]
            exact World.cell?_setCells_in w.heap.size [.string Y] i A1 (fun j hj => hspA _ (by simp at hj; omega)) 0 (by simp)
          · have htl : t < ((nmCells xs).drop i).length := (List.getElem?_eq_some_iff.1 hu).1
            rw [Nat.zero_add]
            have h9 := World.cell?_setCells_in w.heap.size ((nmCells xs).drop i) (i + 1) (A1.setCells w.heap.size i [.string Y]).drew (fun j hj => by
              show ((A1.setCells w.heap.size i [.string Y]).cell? _).isSome = true
              rw [cell_of_row _ _ _ cur1 _ (0, 0) hc1, Array.getElem?_eq_getElem (by omega)]
              rfl) t htl
            rw [h9, ← hu, List.getElem?_eq_getElem htl]
        · have h1 := grown_then g1 (grown_setCells (g := w.heap.size) [.string Y] i A1) (fun k hk => .inr (by cases hk; exact Nat.le_refl _))
          have h2 := grown_setCells (g := w.heap.size) ((nmCells xs).drop i) (i + 1) (A1.setCells w.heap.size i [.string Y]).drew
          exact grown_then h1 ⟨h2.os, h2.tape, h2.output, h2.size, h2.block⟩ (fun k hk => .inr (by cases hk; exact Nat.le_refl _))
end Go.Proofs.YtgnfknjopafngaaGreatDoor
