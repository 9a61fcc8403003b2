import Derived.Test.YtgnfknjopafngaaGreatDoorPlG
import Derived.Deep.RegionWith
import Derived.Test.YtgnfknjopafngaaGreatDoorFmF
import Derived.Test.YtgnfknjopafngaaGreatDoorFmG
/-
  THE DOCUMENT's ANSWER, WALKED: Barring.
-/
namespace Go.Proofs.YtgnfknjopafngaaGreatDoor
open Go.RowKit

theorem pks_one {w : World} {g o c : Nat} {p : M.Pk} (h : PkCell w g o p) (hc : 1 ≤ c) : PksIn w (.slice (some ⟨g, o, none⟩) 1 c) [p] := by
  have hg : g < w.heap.size := by
    obtain ⟨_, _, _, h0, _⟩ := h
    exact World.block_lt_of_cell? _ _ h0
  refine .inr ⟨g, o, c, rfl, hc, hg, fun i q hq => ?_⟩
  cases i with
  | zero => simp at hq; subst hq; simpa using h
  | succ i => simp at hq

set_option maxRecDepth 100000 in
set_option maxHeartbeats 4000000 in
theorem barring_any (lv : Value) (l : List M.Pk) (w : World) (hl : PksIn w lv l) (hln : l.length ≤ 1000000) (hs : ∀ p ∈ l, SmallP p) :
    Calls Tryz.prog 110 #[lv] w fun e w' => ∃ T : ByteArray, e = .returned (.string T) ∧ T.data.toList = M.barringS l ∧ Below w.heap.size w w' := by
  obtain ⟨al, cl, el⟩ := hl.form
  subst el
  have HL : Hid (PksIn w (.slice al l.length cl) l) := hl
  have HS : Hid (∀ p ∈ l, SmallP p) := hs
  clear hl hs
  go_enter Tryz.func110, Tryz.ntmps110
  go_wp2
  go_loopw [3, 4, 5, 6] (fun t i _ _ wr => ∃ (T : ByteArray) (n : Nat), t = .string T ∧ i = .int .i64 n ∧ n ≤ l.length ∧ Below w.heap.size w wr ∧ Hid (T.data.toList = (List.range n).foldl (M.barP l) [])) (fun _ i _ _ _ => l.length - (intOf i).toNat)
  case atStart => exact ⟨⟨#[]⟩, 0, rfl, rfl, Nat.zero_le _, Below.refl _ _, rfl⟩
  case round =>
    obtain ⟨T, n, rfl, rfl, hn, hBr, HR⟩ := hrel
    by_cases hlt : n < l.length
    · have hsp := HS.out _ (List.getElem_mem hlt)
      obtain ⟨bl, off, rfl, _, hcapl, _⟩ := HL.out.cells hlt
      have HC : Hid (∀ W, Below w.heap.size w W → ∀ j (hj : j < l.length), PkCell W bl (off + j * 5) l[j]) := fun W hb j hj => by
        obtain ⟨_, _, e, _, _, h⟩ := (HL.out.below hb).cells hj
        cases e
        exact h
      obtain ⟨_, bv, _, _, _, _, q3, _, _, hN, _⟩ := HC.out w (Below.refl _ _) n hlt
      obtain ⟨an, cn, en⟩ := hN.form
      subst en
      have HQ3 : Hid (w.cell? ⟨bl, off + n * 5 + 3, none⟩ = some (.slice an l[n].bars.length cn)) := q3
      have HN : Hid (RowIn w 0 w.heap.size (.slice an l[n].bars.length cn) l[n].bars.length (chsCells l[n].bars)) := hN
      have hbl : bl < w.heap.size := World.block_lt_of_cell? _ _ q3
      clear q3 hN
      obtain ⟨W0, hW0⟩ : ∃ W, W = wr := ⟨_, rfl⟩
      subst hW0
      go_wp2
      go_loopw [3, 5, 6] (fun t j _ wr => ∃ (X : ByteArray) (k : Nat), t = .string X ∧ j = .int .i64 k ∧ k ≤ l.length ∧ Below w.heap.size w wr ∧ Hid (X.data.toList = (List.range k).foldl (M.barG l n l[n]) T.data.toList)) (fun _ j _ _ => l.length - (intOf j).toNat)
      case atStart => exact ⟨T, 0, rfl, rfl, Nat.zero_le _, hBr, rfl⟩
      case round =>
        obtain ⟨X, k, rfl, rfl, hk, hBk, HX⟩ := hrel
        have c3 : wr.cell? ⟨bl, off + n * 5 + 3, none⟩ = some (.slice an l[n].bars.length cn) := (hBk.cell (p := ⟨bl, off + n * 5 + 3, none⟩) hbl).trans HQ3.out
        by_cases hlk : k < l.length
        · have cA := fun wx c (hb : Below wr.heap.size wr wx) (hc : 1 ≤ c) => any1_any (.slice an l[n].bars.length cn) (.slice (some ⟨bl, off + k * 5, none⟩) 1 c) l[n].bars [l[k]] wx ((HN.out.keep fun g' o' _ hg' => (bt hBk hb).cell (p := ⟨g', o', none⟩) hg').wide (Nat.zero_le _) (bt hBk hb).size) (pks_one (HC.out wx (bt hBk hb) k hlk) hc) hsp.barn (by simp) hsp.bars (fun p hp => by simp at hp; subst hp; exact (HS.out _ (List.getElem_mem hlk)).ver)
          have HG : Hid (∀ n', M.barG l n l[n] n' k = if M.any1S l[n].bars [l[k]] = true ∧ k ≠ n then M.firstS n' l[n].name else n') := fun n' => by
            unfold M.barG
            rw [List.getElem?_eq_getElem hlk]
          have hBd : Below wr.heap.size wr wr.drew := below_same wr 1
          have hcc : 1 ≤ cl - k := by omega
          have b1 : (0 : Int) ≤ (k : Int) := by omega
          have b2 : (k : Int) ≤ (k : Int) + 1 := by omega
          have b3 : (k : Int) + 1 ≤ (cl : Int) := by omega
          have b4 : (0 : Int) ≤ (k : Int) + 1 := by omega
          have hw1 : IntKind.i64.wrap ((k : Int) + 1) = (k : Int) + 1 := by rw [IntKind.wrap_i64]; omega
          have hck : ¬ cl = k := by omega
          have ht1 : ((k : Int) + 1).toNat - k = 1 := by omega
          have ht2 : k ≤ ((k : Int) + 1).toNat := by omega
          have cA2 := cA _ _ hBd hcc
          clear cA
          obtain ⟨Y, hY⟩ : ∃ Y : ByteArray, Y = ⟨l[n].name.toArray⟩ := ⟨_, rfl⟩
          have HY : Hid (Y.data.toList = l[n].name) := by show _ = _; rw [hY]
          have HYC : Hid (∀ W, Below w.heap.size w W → W.cell? ⟨bl, off + n * 5, none⟩ = some (.string Y)) := fun W hb => by
            obtain ⟨_, _, _, y0, _⟩ := HC.out W hb n hlt
            rw [hY]; exact y0
          clear hY
          cases hA : M.any1S l[n].bars [l[k]] with
          | false =>
            have HX2 : Hid (X.data.toList = (List.range (k + 1)).foldl (M.barG l n l[n]) T.data.toList) := by
              show _ = _
              rw [fold_range, ← HX.out, HG.out, if_neg (by rw [hA]; simp)]
            rw [hA] at cA2
            clear hA
            go_wp2_with fail
            go_region_with (go_at_call 147; refine cA2.mono ?_; rintro e w2 ⟨rfl, hB2⟩)
            all_goals
              have hB3 : Below w.heap.size w w2 := bt hBk (bt hBd hB2)
              clear hB2
              go_wp2
              go_roundw
              case rel => exact ⟨X, k + 1, rfl, by go_num, by omega, hB3, HX2⟩
              case measure => simp [intOf]; omega
          | true =>
            rw [hA] at cA2
            by_cases hkn : k = n
            · have HX2 : Hid (X.data.toList = (List.range (k + 1)).foldl (M.barG l n l[n]) T.data.toList) := by
                show _ = _
                rw [fold_range, ← HX.out, HG.out, if_neg (fun h => h.2 hkn)]
              have hkb : ((k : Int) != n) = false := by simp; omega
              have HKN : Hid (k = n) := hkn
              clear hA hkn
              go_wp2_with fail
              go_region_with (go_at_call 147; refine cA2.mono ?_; rintro e w2 ⟨rfl, hB2⟩)
              all_goals
                have hB3 : Below w.heap.size w w2 := bt hBk (bt hBd hB2)
                clear hB2
                go_wp2
                go_roundw
                case rel => exact ⟨X, k + 1, rfl, by go_num, by omega, hB3, HX2⟩
                case measure => simp [intOf]; omega
            · have HX2 : Hid ((firstB X Y).data.toList = (List.range (k + 1)).foldl (M.barG l n l[n]) T.data.toList) := by
                show _ = _
                rw [fold_range, ← HX.out, HG.out, if_pos ⟨hA, hkn⟩, ← HY.out]
                rfl
              have hkb : ((k : Int) != n) = true := by simp; omega
              have cF := fun wx => first_any X Y wx
              generalize firstB X Y = Z at cF HX2
              clear hA
              go_wp2_with fail
              go_region_with (go_at_call 147; refine cA2.mono ?_; rintro e w2 ⟨rfl, hB2⟩)
              all_goals
                have hB3 : Below w.heap.size w w2 := bt hBk (bt hBd hB2)
                have y0 := HYC.out w2 hB3
                clear hB2
                go_wp2_with (go_at_call 113; refine (cF _).mono ?_; rintro e w' ⟨rfl, rfl⟩)
                go_roundw
                case rel => exact ⟨Z, k + 1, rfl, by go_num, by omega, hB3, HX2⟩
                case measure => simp [intOf]; omega
        · have hkk : k = l.length := by omega
          have HR2 : Hid (X.data.toList = (List.range (n + 1)).foldl (M.barP l) []) := by
            have h := HX.out
            rw [hkk] at h
            show _ = _
            rw [fold_range, ← HR.out, h]
            unfold M.barP
            rw [List.getElem?_eq_getElem hlt]
          clear hkk HX
          go_wp2
          go_roundw
          case rel => exact ⟨X, n + 1, rfl, by go_num, by omega, hBk, HR2⟩
          case measure => simp [intOf]; omega
    · have hnn : n = l.length := by omega
      have HE : Hid (T.data.toList = M.barringS l) := by
        have h := HR.out
        rw [hnn] at h
        exact h
      go_wp2
      go_ret
      exact ⟨_, rfl, HE.out, hBr⟩
end Go.Proofs.YtgnfknjopafngaaGreatDoor
/-
  THE DOCUMENT's ANSWER, WALKED: Clash.
-/
namespace Go.Proofs.YtgnfknjopafngaaGreatDoor
open Go.RowKit

/-- A package's files, in memory, whatever world behind. -/
theorem pk_files {w : World} {g o : Nat} {p : M.Pk} (h : PkCell w g o p) : ∃ af cf, w.cell? ⟨g, o + 4, none⟩ = some (.slice af p.files.length cf) ∧ RowIn w 0 w.heap.size (.slice af p.files.length cf) p.files.length (flsCells p.files) ∧ g < w.heap.size := by
  obtain ⟨nv, bv, fv, h0, h1, h2, h3, h4, h5, h6, h7⟩ := h
  obtain ⟨af, cf, rfl⟩ := h7.form
  exact ⟨af, cf, h4, h7, World.block_lt_of_cell? _ _ h0⟩
def clT (i k : Nat) (P Q : ByteArray) : Bool := overB P Q || (P.toList == Q.toList && decide (i ≠ k))

set_option maxRecDepth 100000 in
set_option maxHeartbeats 8000000 in
theorem clash_ref (lv : Value) (l : List M.Pk) (w : World) (hl : PksIn w lv l) (hln : l.length ≤ 1000000) (hs : ∀ p ∈ l, SmallP p) (hfs : ∀ p ∈ l, ∀ f ∈ p.files, f.path.length ≤ 100000) :
    Calls Tryz.prog 111 #[lv] w fun e w' => ∃ T : ByteArray, e = .returned (.string T) ∧ T.data.toList = M.clashingS l ∧ Below w.heap.size w w' := by
  obtain ⟨al, cl, el⟩ := hl.form
  subst el
  have HL : Hid (PksIn w (.slice al l.length cl) l) := hl
  have HS : Hid (∀ p ∈ l, SmallP p) := hs
  have HFS : Hid (∀ p ∈ l, ∀ f ∈ p.files, f.path.length ≤ 100000) := hfs
  clear hl hs hfs
  go_enter Tryz.func111, Tryz.ntmps111
  go_wp2
  go_loopw [3, 4, 5, 6, 7, 8, 9, 10] (fun t i _ _ _ _ _ _ wr => ∃ (T : ByteArray) (n : Nat), t = .string T ∧ i = .int .i64 n ∧ n ≤ l.length ∧ Below w.heap.size w wr ∧ Hid (T.data.toList = (List.range n).foldl (M.clI l) [])) (fun _ i _ _ _ _ _ _ _ => l.length - (intOf i).toNat)
  case atStart => exact ⟨⟨#[]⟩, 0, rfl, rfl, Nat.zero_le _, Below.refl _ _, rfl⟩
  case round =>
    obtain ⟨T, n, rfl, rfl, hn, hBr, HR⟩ := hrel
    by_cases hlt : n < l.length
    · have hfn := (HS.out _ (List.getElem_mem hlt)).filen
      obtain ⟨bl, off, rfl, _, hcapl, hpc⟩ := HL.out.cells hlt
      have HC : Hid (∀ j (hj : j < l.length), PkCell w bl (off + j * 5) l[j]) := fun j hj => by
        obtain ⟨_, _, e, _, _, h⟩ := HL.out.cells hj
        cases e
        exact h
      obtain ⟨ai, ci, qi, ri, hbl⟩ := pk_files hpc
      have HQI : Hid (w.cell? ⟨bl, off + n * 5 + 4, none⟩ = some (.slice ai l[n].files.length ci)) := qi
      have HRI : Hid (RowIn w 0 w.heap.size (.slice ai l[n].files.length ci) l[n].files.length (flsCells l[n].files)) := ri
      clear qi ri hpc
      obtain ⟨W0, hW0⟩ : ∃ W, W = wr := ⟨_, rfl⟩
      subst hW0
      go_wp2
      go_loopw [3, 5, 6, 7, 8, 9, 10] (fun t j _ _ _ _ _ wr => ∃ (X : ByteArray) (k : Nat), t = .string X ∧ j = .int .i64 k ∧ k ≤ l.length ∧ Below w.heap.size w wr ∧ Hid (X.data.toList = (List.range k).foldl (M.clK l n l[n]) T.data.toList)) (fun _ j _ _ _ _ _ _ => l.length - (intOf j).toNat)
      case atStart => exact ⟨T, 0, rfl, rfl, Nat.zero_le _, hBr, rfl⟩
      case round =>
        obtain ⟨X, k, rfl, rfl, hk, hBk, HX⟩ := hrel
        by_cases hlk : k < l.length
        · have hfk := (HS.out _ (List.getElem_mem hlk)).filen
          obtain ⟨ak, ck, qk, rk, _⟩ := pk_files (HC.out k hlk)
          have HQK : Hid (w.cell? ⟨bl, off + k * 5 + 4, none⟩ = some (.slice ak l[k].files.length ck)) := qk
          have HRK : Hid (RowIn w 0 w.heap.size (.slice ak l[k].files.length ck) l[k].files.length (flsCells l[k].files)) := rk
          clear qk rk
          obtain ⟨W1, hW1⟩ : ∃ W, W = wr := ⟨_, rfl⟩
          subst hW1
          go_wp2
          go_loopw [3, 6, 7, 8, 9, 10] (fun t j _ _ _ _ wr => ∃ (Y : ByteArray) (a : Nat), t = .string Y ∧ j = .int .i64 a ∧ a ≤ l[n].files.length ∧ Below w.heap.size w wr ∧ Hid (Y.data.toList = (l[n].files.take a).foldl (M.clA n k l[k].files) X.data.toList)) (fun _ j _ _ _ _ _ => l[n].files.length - (intOf j).toNat)
          case atStart => exact ⟨X, 0, rfl, rfl, Nat.zero_le _, hBk, rfl⟩
          case round =>
            obtain ⟨Y, a, rfl, rfl, ha, hBa, HY⟩ := hrel
            have ci4 : wr.cell? ⟨bl, off + n * 5 + 4, none⟩ = some (.slice ai l[n].files.length ci) := (hBa.cell (p := ⟨bl, off + n * 5 + 4, none⟩) hbl).trans HQI.out
            by_cases hla : a < l[n].files.length
            · obtain ⟨W2, hW2⟩ : ∃ W, W = wr := ⟨_, rfl⟩
              subst hW2
              go_wp2
              go_loopw [3, 7, 8, 9, 10] (fun t j _ _ _ wr => ∃ (Z : ByteArray) (b : Nat), t = .string Z ∧ j = .int .i64 b ∧ b ≤ l[k].files.length ∧ Below w.heap.size w wr ∧ Hid (Z.data.toList = (l[k].files.take b).foldl (M.clB n k l[n].files[a].path) Y.data.toList)) (fun _ j _ _ _ _ => l[k].files.length - (intOf j).toNat)
              case atStart => exact ⟨Y, 0, rfl, rfl, Nat.zero_le _, hBa, rfl⟩
              case round =>
                obtain ⟨Z, b, rfl, rfl, hb, hBb, HZ⟩ := hrel
                have ck4 : wr.cell? ⟨bl, off + k * 5 + 4, none⟩ = some (.slice ak l[k].files.length ck) := (hBb.cell (p := ⟨bl, off + k * 5 + 4, none⟩) hbl).trans HQK.out
                have ci4' : wr.cell? ⟨bl, off + n * 5 + 4, none⟩ = some (.slice ai l[n].files.length ci) := (hBb.cell (p := ⟨bl, off + n * 5 + 4, none⟩) hbl).trans HQI.out
                by_cases hlb : b < l[k].files.length
                · obtain ⟨gi, rfl, hgi, hcapi, hci⟩ := HRI.out.cellAt (by omega)
                  obtain ⟨gk, rfl, hgk, hcapk, hck⟩ := HRK.out.cellAt (by omega)
                  have k0 := fl_cell hla
                  have k1 := fl_cell hlb
                  rw [Nat.mul_comm] at k0 k1
                  obtain ⟨P, hP⟩ : ∃ P : ByteArray, P = ⟨l[n].files[a].path.toArray⟩ := ⟨_, rfl⟩
                  obtain ⟨Q, hQ⟩ : ∃ Q : ByteArray, Q = ⟨l[k].files[b].path.toArray⟩ := ⟨_, rfl⟩
                  have cp : wr.cell? ⟨gi, a * 2, none⟩ = some (.string P) := by rw [hP]; exact (hBb.cell (p := ⟨gi, a * 2, none⟩) hgi).trans (hci _ _ k0)
                  have cq : wr.cell? ⟨gk, b * 2, none⟩ = some (.string Q) := by rw [hQ]; exact (hBb.cell (p := ⟨gk, b * 2, none⟩) hgk).trans (hck _ _ k1)
                  have HP : Hid (P.data.toList = l[n].files[a].path) := by show _ = _; rw [hP]
                  have HQ : Hid (Q.data.toList = l[k].files[b].path) := by show _ = _; rw [hQ]
                  have hPs : P.size ≤ 1000000 := by
                    have h1 := HFS.out _ (List.getElem_mem hlt) _ (List.getElem_mem hla)
                    have h2 := len_data P
                    rw [HP.out] at h2
                    omega
                  have cO := fun wx => over_any P Q wx hPs
                  have cF := fun wx => first_any Z P wx
                  have HG : Hid (∀ m, M.clB n k l[n].files[a].path m l[k].files[b] = if overB P Q = true ∨ (P.data.toList = Q.data.toList ∧ n ≠ k) then M.firstS m l[n].files[a].path else m) := fun m => by
                    unfold M.clB overB
                    rw [HP.out, HQ.out]
                  clear hci hck k0 k1 hP hQ
                  generalize overB P Q = ov at cO HG
                  cases ov
                  · by_cases hpq : (P.toList == Q.toList) = true
                    · by_cases hnk : n = k
                      · have hkb : ((n : Int) != k) = false := by simp; omega
                        have HNK : Hid (n = k) := hnk
                        have HZ2 : Hid (Z.data.toList = (l[k].files.take (b + 1)).foldl (M.clB n k l[n].files[a].path) Y.data.toList) := by
                          show _ = _
                          rw [fold_take _ _ hlb, ← HZ.out, HG.out, if_neg (by rintro (h | ⟨_, h⟩); exact absurd h (by decide); exact h HNK.out)]
                        clear hnk
                        go_wp2_with (first | (go_at_call 64; refine (cO _).mono ?_; rintro e w' ⟨rfl, rfl⟩))
                        go_roundw
                        case rel => exact ⟨Z, b + 1, rfl, by go_num, by omega, hBb, HZ2⟩
                        case measure => simp [intOf]; omega
                      · have hkb : ((n : Int) != k) = true := by simp; omega
                        have HZ2 : Hid ((firstB Z P).data.toList = (l[k].files.take (b + 1)).foldl (M.clB n k l[n].files[a].path) Y.data.toList) := by
                          show _ = _
                          rw [fold_take _ _ hlb, ← HZ.out, HG.out, if_pos (.inr ⟨(by rw [Lib.toList_data, Lib.toList_data, beq_iff_eq] at hpq; exact hpq), hnk⟩), ← HP.out]
                          rfl
                        generalize firstB Z P = F at cF HZ2
                        clear hnk
                        go_wp2_with (first | (go_at_call 64; refine (cO _).mono ?_; rintro e w' ⟨rfl, rfl⟩) | (go_at_call 113; refine (cF _).mono ?_; rintro e w' ⟨rfl, rfl⟩))
                        go_roundw
                        case rel => exact ⟨F, b + 1, rfl, by go_num, by omega, hBb, HZ2⟩
                        case measure => simp [intOf]; omega
                    · replace hpq : (P.toList == Q.toList) = false := by simpa using hpq
                      have HZ2 : Hid (Z.data.toList = (l[k].files.take (b + 1)).foldl (M.clB n k l[n].files[a].path) Y.data.toList) := by
                        show _ = _
                        rw [fold_take _ _ hlb, ← HZ.out, HG.out, if_neg (by rintro (h | ⟨h, _⟩); exact absurd h (by decide); exact (show P.data.toList ≠ Q.data.toList from by rw [Lib.toList_data, Lib.toList_data, beq_eq_false_iff_ne] at hpq; exact hpq) h)]
                      skip
                      go_wp2_with (first | (go_at_call 64; refine (cO _).mono ?_; rintro e w' ⟨rfl, rfl⟩))
                      go_roundw
                      case rel => exact ⟨Z, b + 1, rfl, by go_num, by omega, hBb, HZ2⟩
                      case measure => simp [intOf]; omega
                  · skip
                    have HZ2 : Hid ((firstB Z P).data.toList = (l[k].files.take (b + 1)).foldl (M.clB n k l[n].files[a].path) Y.data.toList) := by
                      show _ = _
                      rw [fold_take _ _ hlb, ← HZ.out, HG.out, if_pos (.inl rfl), ← HP.out]
                      rfl
                    generalize firstB Z P = F at cF HZ2
                    skip
                    go_wp2_with (first | (go_at_call 64; refine (cO _).mono ?_; rintro e w' ⟨rfl, rfl⟩) | (go_at_call 113; refine (cF _).mono ?_; rintro e w' ⟨rfl, rfl⟩))
                    go_roundw
                    case rel => exact ⟨F, b + 1, rfl, by go_num, by omega, hBb, HZ2⟩
                    case measure => simp [intOf]; omega
                · have hbb : b = l[k].files.length := by omega
                  have HY2 : Hid (Z.data.toList = (l[n].files.take (a + 1)).foldl (M.clA n k l[k].files) X.data.toList) := by
                    have h := HZ.out
                    rw [hbb, List.take_length] at h
                    show _ = _
                    rw [fold_take _ _ hla, ← HY.out, h]
                    rfl
                  clear hbb HZ
                  go_wp2
                  go_roundw
                  case rel => exact ⟨Z, a + 1, rfl, by go_num, by omega, hBb, HY2⟩
                  case measure => simp [intOf]; omega
            · have haa : a = l[n].files.length := by omega
              have HX2 : Hid (Y.data.toList = (List.range (k + 1)).foldl (M.clK l n l[n]) T.data.toList) := by
                have h := HY.out
                rw [haa, List.take_length] at h
                show _ = _
                rw [fold_range, ← HX.out, h]
                unfold M.clK
                rw [List.getElem?_eq_getElem hlk]
              clear haa HY
              go_wp2
              go_roundw
              case rel => exact ⟨Y, k + 1, rfl, by go_num, by omega, hBa, HX2⟩
              case measure => simp [intOf]; omega
        · have hkk : k = l.length := by omega
          have HR2 : Hid (X.data.toList = (List.range (n + 1)).foldl (M.clI l) []) := by
            have h := HX.out
            rw [hkk] at h
            show _ = _
            rw [fold_range, ← HR.out, h]
            unfold M.clI
            rw [List.getElem?_eq_getElem hlt]
          clear hkk HX
          go_wp2
          go_roundw
          case rel => exact ⟨X, n + 1, rfl, by go_num, by omega, hBk, HR2⟩
          case measure => simp [intOf]; omega
    · have hnn : n = l.length := by omega
      have HE : Hid (T.data.toList = M.clashingS l) := by
        have h := HR.out
        rw [hnn] at h
        exact h
      go_wp2
      go_ret
      exact ⟨_, rfl, HE.out, hBr⟩
end Go.Proofs.YtgnfknjopafngaaGreatDoor
/-
  THE DOCUMENT's ANSWER, WALKED: waits.
-/
namespace Go.Proofs.YtgnfknjopafngaaGreatDoor
open Go.RowKit

/-- A package's value, put into a block of its own. -/
theorem PkVal.cell {w : World} {p : M.Pk} {a b nv bv fv : Value} (h : PkVal w p (.agg #[a, b, nv, bv, fv])) (t : TypeId) :
    PkCell (w.alloc (.cells #[a, b, nv, bv, fv] t)) w.heap.size 0 p := by
  obtain ⟨nv', bv', fv', e, h5, h6, h7⟩ := h
  cases e
  have hB : Below w.heap.size w (w.alloc (.cells #[.string ⟨p.name.toArray⟩, .string ⟨p.ver.toArray⟩, nv, bv, fv] t)) := (Below.refl _ w).alloc (Nat.le_refl _) _
  obtain ⟨_, _, hcl, _⟩ := newB w [.string ⟨p.name.toArray⟩, .string ⟨p.ver.toArray⟩, nv, bv, fv] t 0
  have kk : ∀ g' o', 0 ≤ g' → g' < w.heap.size → (w.alloc (.cells #[.string ⟨p.name.toArray⟩, .string ⟨p.ver.toArray⟩, nv, bv, fv] t)).cell? ⟨g', o', none⟩ = w.cell? ⟨g', o', none⟩ := fun g' o' _ hg' => hB.cell (p := ⟨g', o', none⟩) hg'
  exact ⟨nv, bv, fv, hcl 0 _ rfl, hcl 1 _ rfl, hcl 2 _ rfl, hcl 3 _ rfl, hcl 4 _ rfl, (h5.keep kk).wide (Nat.zero_le _) hB.size, (h6.keep kk).wide (Nat.zero_le _) hB.size, (h7.keep kk).wide (Nat.zero_le _) hB.size⟩
theorem PkVal.below {w w' : World} {p : M.Pk} {v : Value} (h : PkVal w p v) (hb : Below w.heap.size w w') : PkVal w' p v := by
  obtain ⟨nv, bv, fv, e, h5, h6, h7⟩ := h
  have kk : ∀ g' o', 0 ≤ g' → g' < w.heap.size → w'.cell? ⟨g', o', none⟩ = w.cell? ⟨g', o', none⟩ := fun g' o' _ hg' => hb.cell (p := ⟨g', o', none⟩) hg'
  exact ⟨nv, bv, fv, e, (h5.keep kk).wide (Nat.zero_le _) hb.size, (h6.keep kk).wide (Nat.zero_le _) hb.size, (h7.keep kk).wide (Nat.zero_le _) hb.size⟩

set_option maxRecDepth 100000 in
set_option maxHeartbeats 4000000 in
theorem waits_any (p q : M.Pk) (pv qv tv : Value) (l : List M.Pk) (w : World) (hp : PkVal w p pv) (hq : PkVal w q qv) (hl : PksIn w tv l) (hln : l.length ≤ 1000000) (hsp : SmallP p) (hsq : SmallP q) (hs : ∀ p ∈ l, SmallP p) :
    Calls Tryz.prog 148 #[pv, qv, tv] w fun e w' => e = .returned (.bool (M.waitsS p q l)) ∧ Below w.heap.size w w' := by
  obtain ⟨al, cl, el⟩ := hl.form
  subst el
  have hp0 := hp
  have hq0 := hq
  obtain ⟨nv, bv, fv, rfl, hN, _, _⟩ := hp
  obtain ⟨nv', bv', fv', rfl, _, _, _⟩ := hq
  obtain ⟨an, cn, en⟩ := hN.form
  subst en
  obtain ⟨X, hX⟩ : ∃ X : ByteArray, X = ⟨p.name.toArray⟩ := ⟨_, rfl⟩
  obtain ⟨Y, hY⟩ : ∃ X : ByteArray, X = ⟨p.ver.toArray⟩ := ⟨_, rfl⟩
  obtain ⟨X', hX'⟩ : ∃ X : ByteArray, X = ⟨q.name.toArray⟩ := ⟨_, rfl⟩
  obtain ⟨Y', hY'⟩ : ∃ X : ByteArray, X = ⟨q.ver.toArray⟩ := ⟨_, rfl⟩
  rw [← hX, ← hY] at hp0 ⊢
  rw [← hX', ← hY'] at hq0 ⊢
  clear hX hY hX' hY'
  have hB1 := (Below.refl _ w).alloc (Nat.le_refl _) (.cells #[.string X, .string Y, .slice an p.needs.length cn, bv, fv] 30)
  have hB2 := hB1.alloc (hB1.size) (.cells #[.string X', .string Y', nv', bv', fv'] 30)
  obtain ⟨_, hz, hcl, _⟩ := newB w [.string X, .string Y, .slice an p.needs.length cn, bv, fv] 30 0
  obtain ⟨hB3, hz2, hcl2, _⟩ := newB (w.alloc (.cells #[.string X, .string Y, .slice an p.needs.length cn, bv, fv] 30)) [.string X', .string Y', nv', bv', fv'] 30 0
  replace hz : (w.alloc (.cells #[.string X, .string Y, .slice an p.needs.length cn, bv, fv] 30)).heap.size = w.heap.size + 1 := hz
  obtain ⟨W2, hW2⟩ : ∃ W, W = (w.alloc (.cells #[.string X, .string Y, .slice an p.needs.length cn, bv, fv] 30)).alloc (.cells #[.string X', .string Y', nv', bv', fv'] 30) := ⟨_, rfl⟩
  replace hB3 : Below (w.alloc (.cells #[.string X, .string Y, .slice an p.needs.length cn, bv, fv] 30)).heap.size (w.alloc (.cells #[.string X, .string Y, .slice an p.needs.length cn, bv, fv] 30)) W2 := by rw [hW2]; exact hB3
  rw [hz] at hB3
  replace hz2 : W2.heap.size = w.heap.size + 2 := by rw [hW2]; exact hz2.trans (by rw [hz])
  replace hB2 : Below w.heap.size w W2 := by rw [hW2]; exact hB2
  have HP : Hid (∀ W, Below W2.heap.size W2 W → ∀ j u, [Value.string X, .string Y, .slice an p.needs.length cn, bv, fv][j]? = some u → W.cell? ⟨w.heap.size, j, none⟩ = some u) := fun W hb j u hu =>
    (hb.cell (p := ⟨w.heap.size, j, none⟩) (by rw [hz2]; show w.heap.size < _; omega)).trans ((hB3.cell (p := ⟨w.heap.size, j, none⟩) (Nat.lt_succ_self _)).trans (hcl j u hu))
  have HQ : Hid (∀ W, Below W2.heap.size W2 W → ∀ j u, [Value.string X', .string Y', nv', bv', fv'][j]? = some u → W.cell? ⟨w.heap.size + 1, j, none⟩ = some u) := fun W hb j u hu => by
    have h1 := hcl2 j u hu
    rw [hz] at h1
    refine (hb.cell (p := ⟨w.heap.size + 1, j, none⟩) (by rw [hz2]; show w.heap.size + 1 < _; omega)).trans ?_
    rw [hW2]
    exact h1
  have HL : Hid (PksIn w (.slice al l.length cl) l) := hl
  have HS : Hid (∀ p ∈ l, SmallP p) := hs
  have HP0 : Hid (PkVal w p (.agg #[.string X, .string Y, .slice an p.needs.length cn, bv, fv])) := hp0
  have HQ0 : Hid (PkVal w q (.agg #[.string X', .string Y', nv', bv', fv'])) := hq0
  have HN : Hid (NeedsIn w 0 w.heap.size (.slice an p.needs.length cn) p.needs) := hN
  have hnn := hsp.needn
  have HW : Hid (W2 = (w.alloc (.cells #[.string X, .string Y, .slice an p.needs.length cn, bv, fv] 30)).alloc (.cells #[.string X', .string Y', nv', bv', fv'] 30)) := hW2
  clear hl hs hp0 hq0 hcl hcl2 hB3 hB1 hz hN hW2
  go_enter Tryz.func148, Tryz.ntmps148
  go_wp2
  rw [← HW.out]
  clear HW
  go_loopw [7, 8, 9, 10, 11] (fun i _ _ _ _ wr => ∃ n : Nat, i = .int .i64 n ∧ n ≤ p.needs.length ∧ Below W2.heap.size W2 wr ∧ Hid ((p.needs.take n).any (M.waitsG p q l) = false)) (fun i _ _ _ _ _ => p.needs.length - (intOf i).toNat)
  case atStart => exact ⟨0, rfl, Nat.zero_le _, Below.refl _ _, rfl⟩
  case round =>
    obtain ⟨n, rfl, hn, hBr, HR⟩ := hrel
    have hc2 : wr.cell? ⟨w.heap.size, 2, none⟩ = some (.slice an p.needs.length cn) := HP.out wr hBr 2 _ rfl
    by_cases hlt : n < p.needs.length
    · have hBw : Below w.heap.size w wr := bt hB2 (hBr.mono (by omega))
      have hN2 : NeedsIn wr 0 wr.heap.size (.slice an p.needs.length cn) p.needs := (HN.out.keep fun g' o' _ hg' => hBw.cell (p := ⟨g', o', none⟩) hg').wide (Nat.zero_le _) hBw.size
      obtain ⟨gn, au, cu, rfl, hgn, hcell, hrow⟩ := hN2.at n hlt
      have hgs := hsp.needs _ (List.getElem_mem hlt)
      have hcapn : p.needs.length ≤ cn := by
        rcases hN2 with ⟨vs, h1, _⟩
        obtain ⟨_, h0, _⟩ | ⟨_, _, e1, e2, _⟩ := h1
        · omega
        · cases e1; exact e2
      have cA := fun wx (hb : Below wr.heap.size wr wx) => any1_any (.slice au p.needs[n].length cu) (.slice al l.length cl) p.needs[n] l wx ((hrow.keep fun g' o' _ hg' => hb.cell (p := ⟨g', o', none⟩) hg').wide (Nat.zero_le _) hb.size) (HL.out.below (bt hBw hb)) hgs.1 hln hgs.2 (fun p hp => (HS.out p hp).ver)
      have cB := fun wx (hb : Below wr.heap.size wr wx) => any1_any (.slice au p.needs[n].length cu) (.slice (some ⟨wx.heap.size, 0, none⟩) 1 1) p.needs[n] [p] (wx.alloc (.cells #[.string X, .string Y, .slice (some ⟨gn, 0, none⟩) p.needs.length cn, bv, fv] 30))
        (by have hb2 := hb.alloc hb.size (.cells #[.string X, .string Y, .slice (some ⟨gn, 0, none⟩) p.needs.length cn, bv, fv] 30); exact (hrow.keep fun g' o' _ hg' => hb2.cell (p := ⟨g', o', none⟩) hg').wide (Nat.zero_le _) hb2.size)
        (pks_one ((HP0.out.below (bt hBw hb)).cell _) (Nat.le_refl _)) hgs.1 (by simp) hgs.2 (fun x hx => by simp at hx; subst hx; exact hsp.ver)
      have cC := fun wx (hb : Below wr.heap.size wr wx) => any1_any (.slice au p.needs[n].length cu) (.slice (some ⟨wx.heap.size, 0, none⟩) 1 1) p.needs[n] [q] (wx.alloc (.cells #[.string X', .string Y', nv', bv', fv'] 30))
        (by have hb2 := hb.alloc hb.size (.cells #[.string X', .string Y', nv', bv', fv'] 30); exact (hrow.keep fun g' o' _ hg' => hb2.cell (p := ⟨g', o', none⟩) hg').wide (Nat.zero_le _) hb2.size)
        (pks_one ((HQ0.out.below (bt hBw hb)).cell _) (Nat.le_refl _)) hgs.1 (by simp) hgs.2 (fun x hx => by simp at hx; subst hx; exact hsq.ver)
      have HG : Hid (M.waitsG p q l p.needs[n] = (!M.any1S p.needs[n] l && (!M.any1S p.needs[n] [p] && M.any1S p.needs[n] [q]))) := rfl
      generalize M.any1S p.needs[n] l = a at cA HG
      generalize M.any1S p.needs[n] [p] = b at cB HG
      generalize M.any1S p.needs[n] [q] = c at cC HG
      clear hrow hgs hN2
      have cA2 := cA wr (Below.refl _ _)
      go_wp2_with fail
      refine cA2.mono ?_
      rintro e w3 ⟨rfl, hB3⟩
      have p0 := HP.out w3 (bt hBr hB3) 0 _ rfl
      have p1 := HP.out w3 (bt hBr hB3) 1 _ rfl
      have p2 := HP.out w3 (bt hBr hB3) 2 _ rfl
      have p3 := HP.out w3 (bt hBr hB3) 3 _ rfl
      have p4 := HP.out w3 (bt hBr hB3) 4 _ rfl
      clear cA cA2 hcell hc2
      go_wp2_with fail
      refine (cB w3 hB3).mono ?_
      rintro e w4 ⟨rfl, hB4⟩
      have hB5 : Below wr.heap.size wr w4 := bt (hB3.alloc hB3.size _) hB4
      have q0 := HQ.out w4 (bt hBr hB5) 0 _ rfl
      have q1 := HQ.out w4 (bt hBr hB5) 1 _ rfl
      have q2 := HQ.out w4 (bt hBr hB5) 2 _ rfl
      have q3 := HQ.out w4 (bt hBr hB5) 3 _ rfl
      have q4 := HQ.out w4 (bt hBr hB5) 4 _ rfl
      clear cB p0 p1 p2 p3 p4 hB4 hB3
      go_wp2_with fail
      refine (cC w4 hB5).mono ?_
      rintro e w6 ⟨rfl, hB6⟩
      have hB7 : Below wr.heap.size wr w6 := bt (hB5.alloc hB5.size _) hB6
      have hB8 : Below W2.heap.size W2 w6 := bt hBr hB7
      clear cC q0 q1 q2 q3 q4 hB6 hB5 hB7
      have HGo : Hid (M.waitsG p q l p.needs[n] = false → ((p.needs.take (n + 1)).any (M.waitsG p q l) = false)) := any_take_go hlt HR.out
      have HEnd : Hid (M.waitsG p q l p.needs[n] = true → M.waitsS p q l = true) := any_take_hit hlt
      cases a with
      | true =>
        have HR2 := HGo.out (HG.out.trans rfl)
        replace HR2 : Hid ((p.needs.take (n + 1)).any (M.waitsG p q l) = false) := HR2
        go_wp2
        go_roundw
        case rel => exact ⟨n + 1, by go_num, by omega, hB8, HR2⟩
        case measure => simp [intOf]; omega
      | false =>
        cases b with
        | true =>
          have HR2 := HGo.out (HG.out.trans rfl)
          replace HR2 : Hid ((p.needs.take (n + 1)).any (M.waitsG p q l) = false) := HR2
          go_wp2
          go_roundw
          case rel => exact ⟨n + 1, by go_num, by omega, hB8, HR2⟩
          case measure => simp [intOf]; omega
        | false =>
          cases c with
          | true =>
            have HE : Hid (M.waitsS p q l = true) := HEnd.out (HG.out.trans rfl)
            go_wp2
            go_ret
            exact ⟨ret_bool HE.out.symm, bt hB2 (hB8.mono (by omega))⟩
          | false =>
            have HR2 := HGo.out (HG.out.trans rfl)
            replace HR2 : Hid ((p.needs.take (n + 1)).any (M.waitsG p q l) = false) := HR2
            go_wp2
            go_roundw
            case rel => exact ⟨n + 1, by go_num, by omega, hB8, HR2⟩
            case measure => simp [intOf]; omega
    · have hkk : n = p.needs.length := by omega
      have HE : Hid (M.waitsS p q l = false) := by
        have h := HR.out
        rw [hkk, List.take_length] at h
        exact h
      go_wp2
      go_ret
      exact ⟨ret_bool HE.out.symm, bt hB2 (hBr.mono (by omega))⟩
end Go.Proofs.YtgnfknjopafngaaGreatDoor
