import Derived.Deep.RegionLaw
import Derived.Test.YtgnfknjopafngaaGreatDoorKsag
import Derived.Test.YtgnfknjopafngaaGreatDoorKsb
namespace Go.Proofs.YtgnfknjopafngaaGreatDoor
open Go.RowKit Go.Maps
theorem rowsMap : Tryz.prog.underlying 281 = some (.map 9 43) := by kernel_rfl
theorem zeroRow_run (w : World) : (zeroValue 43).run Tryz.prog w = .ok (.slice none 0 0) w := by rw [Tryz.zeroValue43]
def RowsIn (w : World) (base b : Nat) (B : List UInt8 → List (List UInt8)) (N : Nat) : Prop :=
  ∃ m : List KV, StrMap Tryz.prog 9 w b m ∧ m.length ≤ N ∧ ∀ x, (lookK m x = none ∧ B x = []) ∨
    ∃ v, lookK m x = some v ∧ B x ≠ [] ∧ w.ownsRow base 9 1 v (B x).length (nmCells (B x)) ∧ ∀ y v', y ≠ x → lookK m y = some v' → v'.ownBlock ≠ v.ownBlock
theorem own_cells {w : World} {B e size n : Nat} {v : Value} {xs : List Value} (h : w.ownsRow B e size v n xs) (hn : 0 < n) : ∃ g cap cur, v = .slice (some ⟨g, 0, none⟩) n cap ∧ w.heap[g]? = some (.cells cur e (0, 0)) ∧ B ≤ g ∧ v.ownBlock = some g := by
  obtain ⟨_, ⟨_, h0⟩ | ⟨g, cap, cur, rfl, hb, hg, _⟩⟩ := h
  · omega
  · exact ⟨g, cap, cur, rfl, hg, hb, rfl⟩
theorem own_block {w w' : World} {B e size n : Nat} {v : Value} {xs : List Value} (h : w.ownsRow B e size v n xs) (hk : ∀ g, v.ownBlock = some g → w'.heap[g]? = w.heap[g]?) : w'.ownsRow B e size v n xs := by
  obtain ⟨h1, ⟨rfl, h0⟩ | ⟨g, cap, cur, rfl, hb, hg, h2⟩⟩ := h
  · exact ⟨h1, .inl ⟨rfl, h0⟩⟩
  · exact ⟨h1, .inr ⟨g, cap, cur, rfl, hb, (hk g rfl).trans hg, h2⟩⟩
theorem RowsIn.kept {w w' : World} {base b k N : Nat} {B : List UInt8 → List (List UInt8)} (h : RowsIn w base b B N) (hg : w.grownBy w' (some k)) (hkb : k ≠ b) (hk : ∀ cur e fz, w.heap[k]? ≠ some (.cells cur e fz)) : RowsIn w' base b B N := by
  obtain ⟨m, h1, h2, h3⟩ := h
  refine ⟨m, h1.kept hg (fun e => hkb (Option.some.inj e).symm), h2, fun x => ?_⟩
  rcases h3 x with h | ⟨v, a1, a2, a3, a4⟩
  · exact .inl h
  · refine .inr ⟨v, a1, a2, own_block a3 (fun g hgv => ?_), a4⟩
    obtain ⟨g', cap, cur, rfl, hc, _, e⟩ := own_cells a3 (List.length_pos_iff.2 a2)
    rw [e] at hgv
    injection hgv with hgv
    subst hgv
    exact hg.block _ (Array.getElem?_eq_some_iff.1 hc).1 (fun e => by
      have := Option.some.inj e
      subst this
      exact hk _ _ _ hc)
theorem RowsIn.below {w w' : World} {base b N : Nat} {B : List UInt8 → List (List UInt8)} (h : RowsIn w base b B N) (hb : Below w.heap.size w w') : RowsIn w' base b B N := by
  obtain ⟨m, h1, h2, h3⟩ := h
  refine ⟨m, h1.below hb h1.lt, h2, fun x => ?_⟩
  rcases h3 x with h | ⟨v, a1, a2, a3, a4⟩
  · exact .inl h
  · exact .inr ⟨v, a1, a2, own_below a3 hb, a4⟩
theorem map_no_cells {P : Program} {K : TypeId} {w : World} {b : Nat} {l : List KV} (h : StrMap P K w b l) : ∀ cur e fz, w.heap[b]? ≠ some (.cells cur e fz) := fun cur e fz hh => by
  obtain ⟨es, c, hb⟩ := h.block?
  rw [hb] at hh
  cases hh
theorem iter_no_cells {P : Program} {K : TypeId} {w : World} {b r cnt : Nat} {l todo : List KV} (h : Ranging P K w b r l todo cnt) : ∀ cur e fz, w.heap[r]? ≠ some (.cells cur e fz) := fun cur e fz hh => by
  obtain ⟨_, _, _, ⟨_, _, _, _, _, _, _, _, _, hr, _⟩, _⟩ := h
  rw [hr] at hh
  cases hh
def snocAt (B : List UInt8 → List (List UInt8)) (k n : List UInt8) : List UInt8 → List (List UInt8) := fun x => if x = k then B k ++ [n] else B x
theorem RowsIn.append {w : World} {base b N : Nat} {B : List UInt8 → List (List UInt8)} (h : RowsIn w base b B N) (O T : ByteArray) (ty : TypeId) (hO : O.size ≤ maxLen) (hN : N < 1000000000) (hl : (B O.data.toList).length ≤ 1000000000) (hbase : base ≤ w.heap.size) :
    ∃ v v' w1 w2, (Instr.lookup 281 (.map (some b)) (.string O) false).run Tryz.prog w = .ok v w ∧ (Instr.lookup 281 (.map (some b)) (.string O) false).run Tryz.prog (w.alloc (.cells #[.string T] 9)) = .ok v (w.alloc (.cells #[.string T] 9)) ∧ (∃ ao no co, v = .slice ao no co) ∧ (∃ ao no co, v' = .slice ao no co) ∧
      (Builtin.append_ #[43, 43] ty #[v, .slice (some ⟨w.heap.size, 0, none⟩) 1 1]).run Tryz.prog (w.alloc (.cells #[.string T] 9)) = .ok v' w1 ∧
      (Instr.mapUpdate 281 (.map (some b)) (.string O) v').run Tryz.prog w1 = .ok () w2 ∧
      RowsIn w2 base b (snocAt B O.data.toList T.data.toList) (N + 1) ∧ (∀ k, k < w.heap.size → k ≠ b → (∀ cur fz, w.heap[k]? ≠ some (.cells cur 9 fz)) → w2.heap[k]? = w.heap[k]?) ∧ (∀ k, k < base → k ≠ b → w2.heap[k]? = w.heap[k]?) ∧ w.heap.size ≤ w2.heap.size ∧ w2.os = w.os ∧ w2.tape = w.tape ∧ w2.output = w.output ∧ (∀ k, k < base → w1.heap[k]? = w.heap[k]?) := by
  obtain ⟨m, h1, h2, h3⟩ := h
  have hlook := h1.look Tryz.underlying9 rowsMap (zeroRow_run w) hO
  obtain ⟨v, hv, hown, hap⟩ : ∃ v, (lookK m O.data.toList).getD (.slice none 0 0) = v ∧ w.ownsRow base 9 1 v (B O.data.toList).length (nmCells (B O.data.toList)) ∧ ∀ y v', y ≠ O.data.toList → lookK m y = some v' → v'.ownBlock ≠ v.ownBlock := by
    rcases h3 O.data.toList with ⟨a1, a2⟩ | ⟨v, a1, a2, a3, a4⟩
    · refine ⟨_, rfl, ?_, ?_⟩
      · rw [a1, a2]
        exact ⟨rfl, .inl ⟨rfl, rfl⟩⟩
      · intro y v' hy hv'
        rw [a1]
        rcases h3 y with ⟨c1, _⟩ | ⟨u, c1, c2, c3, _⟩
        · rw [c1] at hv'; cases hv'
        · rw [c1] at hv'
          cases hv'
          obtain ⟨g, _, _, _, _, _, e⟩ := own_cells c3 (List.length_pos_iff.2 c2)
          rw [e]
          intro hh
          cases hh
    · exact ⟨v, by rw [a1]; rfl, a3, a4⟩
  rw [hv] at hlook
  obtain ⟨i, hi, e1, e2, e3⟩ := info_parts infoStr
  have hBW : Below w.heap.size w (w.alloc (.cells #[.string T] 9)) := (Below.refl _ _).alloc (Nat.le_refl _) _
  have hnew : (w.alloc (.cells #[.string T] 9)).cell? ⟨w.heap.size, 0, none⟩ = some (.string T) := by
    unfold World.cell?
    rw [heap_alloc_new]
    rfl
  have hlen : (nmCells (B O.data.toList)).length = (B O.data.toList).length := by simp [nmCells]
  obtain ⟨v', w1, hrun, r1, r2, r3, r4⟩ := run_append_own_at (P := Tryz.prog) (w.alloc (.cells #[.string T] 9)) base 43 ty 9 i _ 1 16 Tryz.underlying43 hi e1 e2 e3 rfl (by decide) v _ _ (own_below hown hBW)
    ⟨w.heap.size, 0, none⟩ 1 1 [.string T] rfl (fun j u hj => by
      cases j with
      | zero => cases hj; exact hnew
      | succ j => cases hj) (fun u hu => by
      simp only [List.mem_singleton] at hu
      subst hu
      rfl) (by simp only [maxLen]; omega) (by omega) (by simp; omega)
  have hold : ∀ k, k < w.heap.size → some k ≠ v.ownBlock → w1.heap[k]? = w.heap[k]? := fun k hk hne => (r2.block k (by simp; omega) hne).trans (hBW.block k hk)
  have hvb : ∀ k, v.ownBlock = some k → base ≤ k ∧ ∃ cur, w.heap[k]? = some (.cells cur 9 (0, 0)) := by
    intro k hk
    obtain ⟨_, ⟨rfl, _⟩ | ⟨g, cap, cur, rfl, hb, hg, _⟩⟩ := hown
    · cases hk
    · cases hk
      exact ⟨hb, cur, hg⟩
  have hbb : w1.heap[b]? = w.heap[b]? := hold b h1.lt (fun e => by
    obtain ⟨_, cur, hc⟩ := hvb b e.symm
    exact map_no_cells h1 _ _ _ hc)
  have hm1 : StrMap Tryz.prog 9 w1 b m := h1.block hbb
  obtain ⟨w2, hput, hm2, hg2⟩ := hm1.put Tryz.underlying9 rowsMap (by simp only [maxLen]; omega) hO v'
  have hnn : 0 < (B O.data.toList).length + 1 := by omega
  obtain ⟨g', cap', cur', hv', hc', hb', ho'⟩ := own_cells r1 hnn
  have hne' : ∀ y u, y ≠ O.data.toList → lookK m y = some u → u.ownBlock ≠ v'.ownBlock := by
    intro y u hy hu
    rcases r4 with e | e
    · rw [e]
      exact hap y u hy hu
    · rw [e]
      rcases h3 y with ⟨c1, _⟩ | ⟨u', c1, c2, c3, _⟩
      · rw [c1] at hu; cases hu
      · rw [c1] at hu
        cases hu
        obtain ⟨g, _, _, _, hg, _, eg⟩ := own_cells c3 (List.length_pos_iff.2 c2)
        rw [eg]
        intro hh
        have := Option.some.inj hh
        have h5 := (Array.getElem?_eq_some_iff.1 hg).1
        simp at this
        omega
  have hpl : (putK m O.data.toList v').length ≤ N + 1 := by
    unfold putK
    have := List.length_filter_le (fun p : KV => p.1 != O.data.toList) m
    simp only [List.length_cons]
    omega
  have hlook2 := (h1.below hBW h1.lt).look Tryz.underlying9 rowsMap (zeroRow_run _) hO
  rw [hv] at hlook2
  refine ⟨v, v', w1, w2, hlook, hlook2, ?_, ⟨_, _, _, hv'⟩, hrun, hput, ⟨_, hm2, hpl, fun x => ?_⟩, ?_, ?_, ?_, ?_, ?_, ?_, fun k hk => hold k (by omega) (fun e => by have := (hvb k e.symm).1; omega)⟩
  · obtain ⟨_, ⟨rfl, _⟩ | ⟨g, cap, cur, rfl, _⟩⟩ := hown
    · exact ⟨_, _, _, rfl⟩
    · exact ⟨_, _, _, rfl⟩
  · by_cases hx : x = O.data.toList
    · subst hx
      refine .inr ⟨v', ?_, ?_, ?_, ?_⟩
      · rw [look_put, if_pos rfl]
      · unfold snocAt
        rw [if_pos rfl]
        simp
      · have : snocAt B O.data.toList T.data.toList O.data.toList = B O.data.toList ++ [T.data.toList] := by unfold snocAt; rw [if_pos rfl]
        rw [this, List.length_append, List.length_singleton]
        have e : nmCells (B O.data.toList ++ [T.data.toList]) = nmCells (B O.data.toList) ++ [.string T] := by simp [nmCells, strV]
        rw [e]
        refine own_block r1 (fun g hg => hg2.block g ?_ ?_)
        · rw [ho'] at hg; cases hg
          exact (Array.getElem?_eq_some_iff.1 hc').1
        · rw [ho'] at hg; cases hg
          intro hh
          have := Option.some.inj hh
          subst this
          exact map_no_cells hm1 _ _ _ hc'
      · intro y u hy hu
        rw [look_put, if_neg hy] at hu
        exact hne' y u hy hu
    · have hs : snocAt B O.data.toList T.data.toList x = B x := by unfold snocAt; rw [if_neg hx]
      rw [hs, look_put, if_neg hx]
      rcases h3 x with h | ⟨u, a1, a2, a3, a4⟩
      · exact .inl h
      · refine .inr ⟨u, a1, a2, own_block a3 (fun g hg => ?_), ?_⟩
        · obtain ⟨g2, _, _, _, hc, _, eg⟩ := own_cells a3 (List.length_pos_iff.2 a2)
          obtain rfl : g2 = g := Option.some.inj (eg.symm.trans hg)
          have hlt := (Array.getElem?_eq_some_iff.1 hc).1
          have hk : w1.heap[g2]? = w.heap[g2]? := hold g2 hlt (fun e => hap x u hx a1 (by rw [eg, e]))
          refine (hg2.block g2 ?_ ?_).trans hk
          · have := r2.size
            simp at this
            omega
          · intro hh
            have := Option.some.inj hh
            subst this
            exact map_no_cells h1 _ _ _ hc
        · intro y u' hy hu'
          rw [look_put] at hu'
          by_cases hyk : y = O.data.toList
          · rw [if_pos hyk] at hu'
            cases hu'
            exact fun e => hne' x u hx a1 e.symm
          · rw [if_neg hyk] at hu'
            exact a4 y u' hy hu'
  · intro k hk hkb hno
    refine (hg2.block k ?_ (fun e => hkb (Option.some.inj e))).trans (hold k hk (fun e => ?_))
    · have := r2.size
      simp at this
      omega
    · obtain ⟨_, cur, hc⟩ := hvb k e.symm
      exact hno _ _ hc
  · intro k hk hkb
    refine (hg2.block k ?_ (fun e => hkb (Option.some.inj e))).trans (hold k (by omega) (fun e => ?_))
    · have := r2.size
      simp at this
      omega
    · have := (hvb k e.symm).1
      omega
  · have := r2.size
    have := hg2.size
    simp at *
    omega
  · rw [hg2.os, r2.os]; rfl
  · rw [hg2.tape, r2.tape]; rfl
  · rw [hg2.output, r2.output]; rfl
end Go.Proofs.YtgnfknjopafngaaGreatDoor
