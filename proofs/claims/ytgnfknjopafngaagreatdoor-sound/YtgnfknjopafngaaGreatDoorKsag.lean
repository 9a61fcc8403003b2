import Derived.Laws.EntriesVeiled
import Derived.Test.YtgnfknjopafngaaGreatDoorKsaf
namespace Go.Proofs.YtgnfknjopafngaaGreatDoor
open Go.RowKit Go.Maps
def checkS (l : List M.Pk) : Option M.Fa := if M.lackingS l ≠ [] then some ⟨4, 0, 0, M.lackingS l⟩ else if M.barringS l ≠ [] then some ⟨5, 0, 0, M.barringS l⟩ else if M.clashingS l ≠ [] then some ⟨6, 0, 0, M.clashingS l⟩ else none
def CheckPost (R : Option M.Fa) (w : World) (e : Ending) (w' : World) : Prop :=
  Below w.heap.size w w' ∧ match R with
    | some f => ∃ ev, e = .returned ev ∧ ErrIs f w' ev
    | none => e = .returned .nilIface
set_option maxRecDepth 100000 in
set_option maxHeartbeats 2000000 in
theorem checks_any (w : World) : Calls Tryz.prog 189 #[] w fun e w' => e = .returned (.slice (some ⟨w.heap.size, 0, none⟩) 3 3) ∧ w' = w.alloc (.cells #[.int .i64 4, .func (.func 122) #[] #[], .int .i64 5, .func (.func 236) #[] #[], .int .i64 6, .func (.func 237) #[] #[]] 279) := by
  go_enter Tryz.func189, Tryz.ntmps189
  go_wp2
  go_ret
  exact ⟨rfl, rfl⟩
set_option maxRecDepth 100000 in
set_option maxHeartbeats 8000000 in
theorem check_any (b : Nat) (l : List M.Pk) (w : World) (hl : SetIn w b l) (hn : l.length ≤ 100000) (hs : ∀ p ∈ l, ReadP p) :
    Calls Tryz.prog 154 #[.map (some b)] w (CheckPost (checkS l) w) := by
  have cK := checks_any w
  have c1 := fun wx (hb : Below w.heap.size w wx) => firstLacking_any b l wx (hl.below hb) (by omega) hs
  have c2 := fun wx (hb : Below w.heap.size w wx) => firstBarring_any b l wx (hl.below hb) (by omega) hs
  have c3 := fun wx (hb : Below w.heap.size w wx) => firstShared_any b l wx (hl.below hb) hn hs
  generalize hW1 : w.alloc (.cells #[.int .i64 4, .func (.func 122) #[] #[], .int .i64 5, .func (.func 236) #[] #[], .int .i64 6, .func (.func 237) #[] #[]] 279) = W1 at cK
  have HB1 : Hid (Below w.heap.size w W1) := by rw [← hW1]; exact (Below.refl _ w).alloc (Nat.le_refl _) _
  have s1 : W1.heap.size = w.heap.size + 1 := by rw [← hW1]; simp
  have HC : Hid (∀ j u, [Value.int .i64 4, .func (.func 122) #[] #[], .int .i64 5, .func (.func 236) #[] #[], .int .i64 6, .func (.func 237) #[] #[]][j]? = some u → W1.cell? ⟨w.heap.size, j, none⟩ = some u) := by rw [← hW1]; exact fun j u hu => new_at w _ _ j u hu
  clear hW1
  go_enter Tryz.func154, Tryz.ntmps154
  go_wp2_with fail
  refine (cK.mono fun e w' h => ⟨h.1, h.2.symm⟩ : Calls _ _ _ _ fun e w' => e = .returned (.slice (some ⟨w.heap.size, 0, none⟩) 3 3) ∧ W1 = w').mono ?_
  rintro e w' ⟨rfl, rfl⟩
  clear cK
  go_wp2
  go_loopw [4, 5, 8] (fun _ _ i wr => ∃ j : Nat, i = .int .i64 j ∧ j ≤ 3 ∧ Below W1.heap.size W1 wr ∧ Hid ((1 ≤ j → M.lackingS l = []) ∧ (2 ≤ j → M.barringS l = []) ∧ (3 ≤ j → M.clashingS l = []))) (fun _ _ i _ => 3 - (intOf i).toNat)
  case atStart => exact ⟨0, rfl, Nat.zero_le _, Below.refl _ _, fun h => by omega, fun h => by omega, fun h => by omega⟩
  case round =>
    obtain ⟨j, rfl, hj, hBr, HJ⟩ := hrel
    have HCr : Hid (∀ i u, [Value.int .i64 4, .func (.func 122) #[] #[], .int .i64 5, .func (.func 236) #[] #[], .int .i64 6, .func (.func 237) #[] #[]][i]? = some u → wr.cell? ⟨w.heap.size, i, none⟩ = some u) := fun i u hu => (hBr.cell (p := ⟨w.heap.size, i, none⟩) (by show w.heap.size < _; omega)).trans (HC.out i u hu)
    have hBw : Below w.heap.size w wr := bt HB1.out hBr
    have hj4 : j = 0 ∨ j = 1 ∨ j = 2 ∨ j = 3 := by omega
    rcases hj4 with rfl | rfl | rfl | rfl
    · have q0 := HCr.out 0 _ rfl
      have q1 := HCr.out 1 _ rfl
      generalize hW3 : wr.alloc (.cells #[.int .i64 4, .func (.func 122) #[] #[]] 279) = W3
      have HB3 : Hid (Below wr.heap.size wr W3) := by rw [← hW3]; exact (Below.refl _ wr).alloc (Nat.le_refl _) _
      have r0 : W3.cell? ⟨wr.heap.size, 0, none⟩ = some (.int .i64 4) := by rw [← hW3]; exact new_at wr [.int .i64 4, .func (.func 122) #[] #[]] _ 0 _ rfl
      have r1 : W3.cell? ⟨wr.heap.size, 1, none⟩ = some (.func (.func 122) #[] #[]) := by rw [← hW3]; exact new_at wr [.int .i64 4, .func (.func 122) #[] #[]] _ 1 _ rfl
      go_wp2_with fail
      refine (c1 _ (bt hBw HB3.out)).mono ?_
      rintro e w4 ⟨T, rfl, hT, hB4⟩
      have HT : Hid (T.data.toList = M.lackingS l) := hT
      have r2 : w4.cell? ⟨wr.heap.size, 0, none⟩ = some (.int .i64 4) := (hB4.cell (p := ⟨wr.heap.size, 0, none⟩) (World.block_lt_of_cell? _ _ r0)).trans r0
      have hB14 : Below W1.heap.size W1 w4 := bt hBr (bt HB3.out hB4)
      have hBw4 : Below w.heap.size w w4 := bt hBw (bt HB3.out hB4)
      clear hT q0 q1 r0 r1 hB4
      by_cases ht : T.toList.isEmpty = true
      · have HJ2 : Hid ((1 ≤ 1 → M.lackingS l = []) ∧ (2 ≤ 1 → M.barringS l = []) ∧ (3 ≤ 1 → M.clashingS l = [])) := ⟨fun _ => by rw [← HT.out]; exact str_eq ht, fun h => by omega, fun h => by omega⟩
        go_wp2
        go_roundw
        case rel => exact ⟨1, by go_num, by omega, hB14, HJ2⟩
        case measure => simp [intOf]
      · replace ht : T.toList.isEmpty = false := by simpa using ht
        have HE : Hid (checkS l = some ⟨4, 0, 0, M.lackingS l⟩) := by
          show _ = _
          unfold checkS
          rw [if_pos (by rw [← HT.out]; exact str_ne ht)]
        have HEr : Hid (ErrIs ⟨4, 0, 0, M.lackingS l⟩ (w4.alloc (.cells #[.int .i64 4, .int .i64 0, .int .i64 0, .string T] 117)) (.iface 112 (.pointer (some ⟨w4.heap.size, 0, none⟩)))) := by
          refine ⟨_, rfl, ?_⟩
          rw [← str_of HT.out]
          exact fault_new (w := w4) 4 0 0 T 117
        go_wp2
        go_ret
        refine ⟨hBw4.alloc hBw4.size _, ?_⟩
        rw [HE.out]
        exact ⟨_, rfl, HEr.out⟩
    · have q0 := HCr.out 2 _ rfl
      have q1 := HCr.out 3 _ rfl
      generalize hW3 : wr.alloc (.cells #[.int .i64 5, .func (.func 236) #[] #[]] 279) = W3
      have HB3 : Hid (Below wr.heap.size wr W3) := by rw [← hW3]; exact (Below.refl _ wr).alloc (Nat.le_refl _) _
      have r0 : W3.cell? ⟨wr.heap.size, 0, none⟩ = some (.int .i64 5) := by rw [← hW3]; exact new_at wr [.int .i64 5, .func (.func 236) #[] #[]] _ 0 _ rfl
      have r1 : W3.cell? ⟨wr.heap.size, 1, none⟩ = some (.func (.func 236) #[] #[]) := by rw [← hW3]; exact new_at wr [.int .i64 5, .func (.func 236) #[] #[]] _ 1 _ rfl
      go_wp2_with fail
      refine (c2 _ (bt hBw HB3.out)).mono ?_
      rintro e w4 ⟨T, rfl, hT, hB4⟩
      have HT : Hid (T.data.toList = M.barringS l) := hT
      have r2 : w4.cell? ⟨wr.heap.size, 0, none⟩ = some (.int .i64 5) := (hB4.cell (p := ⟨wr.heap.size, 0, none⟩) (World.block_lt_of_cell? _ _ r0)).trans r0
      have hB14 : Below W1.heap.size W1 w4 := bt hBr (bt HB3.out hB4)
      have hBw4 : Below w.heap.size w w4 := bt hBw (bt HB3.out hB4)
      clear hT q0 q1 r0 r1 hB4
      by_cases ht : T.toList.isEmpty = true
      · have HJ2 : Hid ((1 ≤ 2 → M.lackingS l = []) ∧ (2 ≤ 2 → M.barringS l = []) ∧ (3 ≤ 2 → M.clashingS l = [])) := ⟨fun _ => HJ.out.1 (by omega), fun _ => by rw [← HT.out]; exact str_eq ht, fun h => by omega⟩
        go_wp2
        go_roundw
        case rel => exact ⟨2, by go_num, by omega, hB14, HJ2⟩
        case measure => simp [intOf]
      · replace ht : T.toList.isEmpty = false := by simpa using ht
        have HE : Hid (checkS l = some ⟨5, 0, 0, M.barringS l⟩) := by
          show _ = _
          unfold checkS
          rw [if_neg (by rw [HJ.out.1 (by omega)]; simp), if_pos (by rw [← HT.out]; exact str_ne ht)]
        have HEr : Hid (ErrIs ⟨5, 0, 0, M.barringS l⟩ (w4.alloc (.cells #[.int .i64 5, .int .i64 0, .int .i64 0, .string T] 117)) (.iface 112 (.pointer (some ⟨w4.heap.size, 0, none⟩)))) := by
          refine ⟨_, rfl, ?_⟩
          rw [← str_of HT.out]
          exact fault_new (w := w4) 5 0 0 T 117
        go_wp2
        go_ret
        refine ⟨hBw4.alloc hBw4.size _, ?_⟩
        rw [HE.out]
        exact ⟨_, rfl, HEr.out⟩
    · have q0 := HCr.out 4 _ rfl
      have q1 := HCr.out 5 _ rfl
      generalize hW3 : wr.alloc (.cells #[.int .i64 6, .func (.func 237) #[] #[]] 279) = W3
      have HB3 : Hid (Below wr.heap.size wr W3) := by rw [← hW3]; exact (Below.refl _ wr).alloc (Nat.le_refl _) _
      have r0 : W3.cell? ⟨wr.heap.size, 0, none⟩ = some (.int .i64 6) := by rw [← hW3]; exact new_at wr [.int .i64 6, .func (.func 237) #[] #[]] _ 0 _ rfl
      have r1 : W3.cell? ⟨wr.heap.size, 1, none⟩ = some (.func (.func 237) #[] #[]) := by rw [← hW3]; exact new_at wr [.int .i64 6, .func (.func 237) #[] #[]] _ 1 _ rfl
      go_wp2_with fail
      refine (c3 _ (bt hBw HB3.out)).mono ?_
      rintro e w4 ⟨T, rfl, hT, hB4⟩
      have HT : Hid (T.data.toList = M.clashingS l) := hT
      have r2 : w4.cell? ⟨wr.heap.size, 0, none⟩ = some (.int .i64 6) := (hB4.cell (p := ⟨wr.heap.size, 0, none⟩) (World.block_lt_of_cell? _ _ r0)).trans r0
      have hB14 : Below W1.heap.size W1 w4 := bt hBr (bt HB3.out hB4)
      have hBw4 : Below w.heap.size w w4 := bt hBw (bt HB3.out hB4)
      clear hT q0 q1 r0 r1 hB4
      by_cases ht : T.toList.isEmpty = true
      · have HJ2 : Hid ((1 ≤ 3 → M.lackingS l = []) ∧ (2 ≤ 3 → M.barringS l = []) ∧ (3 ≤ 3 → M.clashingS l = [])) := ⟨fun _ => HJ.out.1 (by omega), fun _ => HJ.out.2.1 (by omega), fun _ => by rw [← HT.out]; exact str_eq ht⟩
        go_wp2
        go_roundw
        case rel => exact ⟨3, by go_num, by omega, hB14, HJ2⟩
        case measure => simp [intOf]
      · replace ht : T.toList.isEmpty = false := by simpa using ht
        have HE : Hid (checkS l = some ⟨6, 0, 0, M.clashingS l⟩) := by
          show _ = _
          unfold checkS
          rw [if_neg (by rw [HJ.out.1 (by omega)]; simp), if_neg (by rw [HJ.out.2.1 (by omega)]; simp), if_pos (by rw [← HT.out]; exact str_ne ht)]
        have HEr : Hid (ErrIs ⟨6, 0, 0, M.clashingS l⟩ (w4.alloc (.cells #[.int .i64 6, .int .i64 0, .int .i64 0, .string T] 117)) (.iface 112 (.pointer (some ⟨w4.heap.size, 0, none⟩)))) := by
          refine ⟨_, rfl, ?_⟩
          rw [← str_of HT.out]
          exact fault_new (w := w4) 6 0 0 T 117
        go_wp2
        go_ret
        refine ⟨hBw4.alloc hBw4.size _, ?_⟩
        rw [HE.out]
        exact ⟨_, rfl, HEr.out⟩
    · have HE : Hid (checkS l = none) := by
        show _ = _
        unfold checkS
        rw [if_neg (by rw [HJ.out.1 (by omega)]; simp), if_neg (by rw [HJ.out.2.1 (by omega)]; simp), if_neg (by rw [HJ.out.2.2 (by omega)]; simp)]
      go_wp2
      go_ret
      refine ⟨hBw, ?_⟩
      rw [HE.out]
      rfl
end Go.Proofs.YtgnfknjopafngaaGreatDoor
namespace Go.Proofs.YtgnfknjopafngaaGreatDoor
open Go.RowKit Go.Maps
def KeysAre (m : List KV) (S : List UInt8 → Prop) : Prop := ∀ x, (lookK m x).isSome = true ↔ S x
theorem KeysAre.put {m : List KV} {S : List UInt8 → Prop} (h : KeysAre m S) (k : List UInt8) (v : Value) : KeysAre (putK m k v) (fun x => S x ∨ x = k) := fun x => by
  rw [look_put]
  by_cases e : x = k
  · rw [if_pos e]; simp [e]
  · rw [if_neg e, h x]; simp [e]
theorem KeysAre.congr {m : List KV} {S T : List UInt8 → Prop} (h : KeysAre m S) (e : ∀ x, S x ↔ T x) : KeysAre m T := fun x => (h x).trans (e x)
theorem any1_self (g : List M.Ch) (p : M.Pk) : M.any1S g [p] = g.any (fun c => M.fitsS c p) := by
  unfold M.any1S
  congr 1
  funext c
  simp
theorem fits_name {c : M.Ch} {q : M.Pk} (h : M.fitsS c q = true) : c.name = q.name := by
  unfold M.fitsS at h
  split at h
  · assumption
  · cases h
set_option maxRecDepth 100000 in
set_option maxHeartbeats 8000000 in
theorem awaited_any (p : M.Pk) (v : Value) (bi ba : Nat) (there fresh : List M.Pk) (w : World) (hv : PkVal w p v) (hi : SetIn w bi there) (hf : SetIn w ba fresh) (hs : ReadP p) (hst : ∀ q ∈ there, ReadP q) (hsf : ∀ q ∈ fresh, ReadP q) :
    Calls Tryz.prog 238 #[v, .map (some bi), .map (some ba)] w fun e w' => ∃ ob m, e = .returned (.map (some ob)) ∧ StrMap Tryz.prog 9 w' ob m ∧ KeysAre m (fun x => ∃ q ∈ fresh, q.name = x ∧ M.waitsS p q there = true) ∧ m.length ≤ 2000000 ∧ Below w.heap.size w w' ∧ w.heap.size ≤ ob := by
  have hmm := @run_makeMap Tryz.prog
  obtain ⟨nv, bv, fv, ev, hN1, hN2, hN3⟩ := hv
  obtain ⟨an, cn, en⟩ := hN1.form
  obtain ⟨ab, cb, eb⟩ := hN2.form
  obtain ⟨ac, cc, ec⟩ := hN3.form
  subst en eb ec
  obtain ⟨Y, hY⟩ : ∃ Y : ByteArray, Y = ⟨p.name.toArray⟩ := ⟨_, rfl⟩
  obtain ⟨V, hV⟩ : ∃ V : ByteArray, V = ⟨p.ver.toArray⟩ := ⟨_, rfl⟩
  rw [← hY, ← hV] at ev
  subst ev
  have HYV : Hid (Y = ⟨p.name.toArray⟩ ∧ V = ⟨p.ver.toArray⟩) := ⟨hY, hV⟩
  generalize hA1 : w.alloc (.cells #[.string Y, .string V, .slice an p.needs.length cn, .slice ab p.bars.length cb, .slice ac p.files.length cc] 108) = A1
  generalize hW1 : A1.alloc (.map #[] 0) = W1
  have hB1 : Below w.heap.size w A1 := by rw [← hA1]; exact (Below.refl _ w).alloc (Nat.le_refl _) _
  have hB2 : Below A1.heap.size A1 W1 := by rw [← hW1]; exact (Below.refl _ A1).alloc (Nat.le_refl _) _
  have sA : A1.heap.size = w.heap.size + 1 := by rw [← hA1]; simp
  have s1 : W1.heap.size = w.heap.size + 2 := by rw [← hW1]; simp [sA]
  have HB1 : Hid (Below w.heap.size w W1) := bt hB1 hB2
  have HP5 : Hid (∀ j u, [Value.string Y, .string V, .slice an p.needs.length cn, .slice ab p.bars.length cb, .slice ac p.files.length cc][j]? = some u → W1.cell? ⟨w.heap.size, j, none⟩ = some u) := fun j u hu => by
    have : A1.cell? ⟨w.heap.size, j, none⟩ = some u := by rw [← hA1]; exact new_at w _ _ j u hu
    exact (hB2.cell (p := ⟨w.heap.size, j, none⟩) (World.block_lt_of_cell? _ _ this)).trans this
  have hm0 : StrMap Tryz.prog 9 W1 (w.heap.size + 1) [] := by rw [← hW1, ← sA]; exact StrMap.made A1
  have HN : Hid (NeedsIn w 0 w.heap.size (.slice an p.needs.length cn) p.needs) := hN1
  have HI : Hid (SetIn w bi there) := hi
  have HF : Hid (SetIn w ba fresh) := hf
  have HS : Hid (ReadP p) := hs
  have HST : Hid (∀ q ∈ there, ReadP q) := hst
  have HSF : Hid (∀ q ∈ fresh, ReadP q) := hsf
  have hnn := hs.short.needn
  have r2 := HP5.out 2 _ rfl
  clear hN1 hN2 hN3 hi hf hs hst hsf hY hV hB1 hB2
  go_enter Tryz.func238, Tryz.ntmps238
  go_wp2
  go_step3
  go_wp2
  go_step3
  go_wp2
  go_loopw [9, 11, 13, 18] (fun _ _ _ i wr => ∃ (n : Nat) (m : List KV), i = .int .i64 n ∧ n ≤ p.needs.length ∧ Below (w.heap.size + 1) W1 wr ∧ w.heap.size + 2 ≤ wr.heap.size ∧ Hid (StrMap Tryz.prog 9 wr (w.heap.size + 1) m) ∧ Hid (KeysAre m (fun x => ∃ q ∈ fresh, q.name = x ∧ (p.needs.take n).any (M.waitsG p q there) = true)) ∧ Hid (m.length ≤ n * 1000)) (fun _ _ _ i _ => p.needs.length - (intOf i).toNat)
  case atStart => exact ⟨0, [], rfl, Nat.zero_le _, Below.refl _ _, by omega, hm0, fun x => by simp [lookK], Nat.le_refl _⟩
  case round =>
    obtain ⟨n, m, rfl, hn', hBr, hsz, HM, HK, HL⟩ := hrel
    have hBw : Below w.heap.size w wr := HB1.out.trans (hBr.mono (by omega))
    by_cases hlt : n < p.needs.length
    · have hNw : NeedsIn wr 0 wr.heap.size (.slice an p.needs.length cn) p.needs := (HN.out.keep fun _ _ _ hg' => belowS hBw hg').wide (Nat.zero_le _) hBw.size
      obtain ⟨gn, au, cu, rfl, hgn, hcell, hrow⟩ := hNw.at n hlt
      have hncap : p.needs.length ≤ cn := by
        obtain ⟨vs, h1, _⟩ := hNw
        obtain ⟨_, h0, _⟩ | ⟨g', cap, e1, e2, _⟩ := h1
        · omega
        · cases e1; exact e2
      have hgl := (HS.out.short.needs _ (List.getElem_mem hlt)).1
      have HGs : Hid (∀ c ∈ p.needs[n], c.name ≠ [] ∧ c.name.length ≤ 8000 ∧ c.ver.length ≤ 8000) := fun c hc => ⟨HS.out.good.needs _ (List.getElem_mem hlt) c hc, ((HS.out.short.needs _ (List.getElem_mem hlt)).2 c hc).1, ((HS.out.short.needs _ (List.getElem_mem hlt)).2 c hc).2.2⟩
      have HTake : Hid (∀ q, (p.needs.take (n + 1)).any (M.waitsG p q there) = ((p.needs.take n).any (M.waitsG p q there) || M.waitsG p q there p.needs[n])) := fun q => by rw [List.take_succ_eq_append_getElem hlt, List.any_append]; simp
      generalize p.needs[n] = g at hcell hrow hgl HGs HTake
      have HRw : Hid (RowIn wr 0 wr.heap.size (.slice au g.length cu) g.length (chsCells g)) := hrow
      clear hNw hrow
      obtain ⟨W2, hW2⟩ : ∃ W, W = wr := ⟨_, rfl⟩
      subst hW2
      go_wp2
      go_loopw [11, 24] (fun _ i wr => ∃ j : Nat, i = .int .i64 j ∧ j ≤ g.length ∧ Below W2.heap.size W2 wr ∧ Hid (∀ c ∈ g.take j, M.fitsS c p = false ∧ (there.any fun q => M.fitsS c q) = false)) (fun _ i _ => g.length - (intOf i).toNat)
      case atStart => exact ⟨0, rfl, Nat.zero_le _, Below.refl _ _, fun c hc => by simp at hc⟩
      case round =>
        obtain ⟨j, rfl, hj', hBj, HC⟩ := hrel
        by_cases hlj : j < g.length
        · obtain ⟨bg, rfl, hbg, hcapg, hcg⟩ := HRw.out.cellAt (by omega)
          obtain ⟨k0, k1, k2⟩ := ch_cell hlj
          have q0 : wr.cell? ⟨bg, j * 3, none⟩ = some (.string ⟨g[j].name.toArray⟩) := (hBj.cell (p := ⟨bg, j * 3, none⟩) hbg).trans (hcg _ _ k0)
          have q1 : wr.cell? ⟨bg, j * 3 + 1, none⟩ = some (.string ⟨g[j].sign.toArray⟩) := (hBj.cell (p := ⟨bg, j * 3 + 1, none⟩) hbg).trans (hcg _ _ k1)
          have q2 : wr.cell? ⟨bg, j * 3 + 2, none⟩ = some (.string ⟨g[j].ver.toArray⟩) := (hBj.cell (p := ⟨bg, j * 3 + 2, none⟩) hbg).trans (hcg _ _ k2)
          have hsc := HGs.out _ (List.getElem_mem hlj)
          have hBwr : Below w.heap.size w wr := bt hBw hBj
          generalize hW3 : wr.alloc (.cells #[.string ⟨g[j].name.toArray⟩, .string ⟨g[j].sign.toArray⟩, .string ⟨g[j].ver.toArray⟩] 156) = W3
          have h3 : Below wr.heap.size wr W3 := by rw [← hW3]; exact (Below.refl _ wr).alloc (Nat.le_refl _) _
          have HC3 : Hid (∀ i u, [Value.string ⟨g[j].name.toArray⟩, .string ⟨g[j].sign.toArray⟩, .string ⟨g[j].ver.toArray⟩][i]? = some u → W3.cell? ⟨wr.heap.size, i, none⟩ = some u) := by rw [← hW3]; exact fun i u hu => new_at wr _ _ i u hu
          have t0 := HC3.out 0 _ rfl
          have t1 := HC3.out 1 _ rfl
          have t2 := HC3.out 2 _ rfl
          have hP3 : ∀ i u, [Value.string Y, .string V, .slice (some ⟨gn, 0, none⟩) p.needs.length cn, .slice ab p.bars.length cb, .slice ac p.files.length cc][i]? = some u → W3.cell? ⟨w.heap.size, i, none⟩ = some u := fun i u hu => by
            have e1 := HP5.out i u hu
            have e2 := (hBr.cell (p := ⟨w.heap.size, i, none⟩) (by show w.heap.size < _; omega)).trans e1
            exact ((bt hBj h3).cell (p := ⟨w.heap.size, i, none⟩) (World.block_lt_of_cell? _ _ e2)).trans e2
          have u0 := hP3 0 _ rfl
          have u1 := hP3 1 _ rfl
          have u2 := hP3 2 _ rfl
          have u3 := hP3 3 _ rfl
          have u4 := hP3 4 _ rfl
          have sz : ∀ q : List UInt8, (ByteArray.mk q.toArray).size = q.length := fun q => by rw [← len_data]
          have cA : ∀ wx, Calls Tryz.prog 201 #[.agg #[.string ⟨g[j].name.toArray⟩, .string ⟨g[j].sign.toArray⟩, .string ⟨g[j].ver.toArray⟩], .agg #[.string Y, .string V, .slice (some ⟨gn, 0, none⟩) p.needs.length cn, .slice ab p.bars.length cb, .slice ac p.files.length cc]] wx fun e w' => e = .returned (.bool (M.fitsS g[j] p)) ∧ Below wx.heap.size wx w' := fun wx => by
            have := asksFor_any ⟨g[j].name.toArray⟩ ⟨g[j].sign.toArray⟩ ⟨g[j].ver.toArray⟩ Y V (.slice (some ⟨gn, 0, none⟩) p.needs.length cn) (.slice ab p.bars.length cb) (.slice ac p.files.length cc) wx (by rw [sz]; omega) (by rw [HYV.out.2, sz]; have := HS.out.short.ver; omega)
            rw [HYV.out.1, HYV.out.2, fitsB_c] at this
            rw [HYV.out.1, HYV.out.2]
            exact this
          have cH := fun wx (hb : Below w.heap.size w wx) => has_any bi there g[j] wx (HI.out.below hb) (fun q hq => (HST.out q hq).smallQ.1) hsc.1 (by omega) (by omega)
          have H3 : Hid (Below wr.heap.size wr W3) := h3
          clear hcg k0 k1 k2 hsc h3 hP3 sz
          go_wp2_with fail
          refine (cA _).mono ?_
          rintro e w4 ⟨rfl, hB4⟩
          have hB34 : Below wr.heap.size wr w4 := bt H3.out hB4
          have y0 := (hB4.cell (p := ⟨wr.heap.size, 0, none⟩) (World.block_lt_of_cell? _ _ t0)).trans t0
          have y1 := (hB4.cell (p := ⟨wr.heap.size, 1, none⟩) (World.block_lt_of_cell? _ _ t1)).trans t1
          have y2 := (hB4.cell (p := ⟨wr.heap.size, 2, none⟩) (World.block_lt_of_cell? _ _ t2)).trans t2
          clear cA hB4 t0 t1 t2 u0 u1 u2 u3 u4
          have hszw : ∀ W, Below W2.heap.size W2 W → Below (w.heap.size + 1) W1 W ∧ w.heap.size + 2 ≤ W.heap.size := fun W hb => ⟨hBr.trans (hb.mono (by omega)), by have := hb.size; omega⟩
          have HLn : Hid (m.length ≤ (n + 1) * 1000) := by show _ ≤ _; have := HL.out; omega
          cases hb1 : M.fitsS g[j] p with
          | true =>
            have hW : ∀ q, M.waitsG p q there g = false := fun q => by
              unfold M.waitsG
              rw [any1_self g p, List.any_eq_true.2 ⟨_, List.getElem_mem hlj, hb1⟩]
              simp
            have HK2 : Hid (KeysAre m (fun x => ∃ q ∈ fresh, q.name = x ∧ (p.needs.take (n + 1)).any (M.waitsG p q there) = true)) := HK.out.congr (fun x => exists_congr (fun q => and_congr Iff.rfl (and_congr Iff.rfl (by rw [HTake.out, hW, Bool.or_false]))))
            obtain ⟨hx1, hx2⟩ := hszw w4 (bt hBj hB34)
            have HM4 : Hid (StrMap Tryz.prog 9 w4 (w.heap.size + 1) m) := HM.out.below (bt hBj hB34) HM.out.lt
            clear hb1 hW cH
            go_wp2
            go_roundw
            case rel => exact ⟨n + 1, m, by go_num, by omega, hx1, hx2, HM4, HK2, HLn⟩
            case measure => simp [intOf]; omega
          | false =>
            go_wp2_with fail
            refine (cH _ (bt hBwr hB34)).mono ?_
            rintro e w5 ⟨rfl, hB5⟩
            have hB35 : Below W2.heap.size W2 w5 := bt hBj (bt hB34 hB5)
            clear cH hB5 y0 y1 y2
            cases hb2 : (there.any fun q => M.fitsS g[j] q) with
            | true =>
              have hW : ∀ q, M.waitsG p q there g = false := fun q => by
                unfold M.waitsG
                have : M.any1S g there = true := List.any_eq_true.2 ⟨_, List.getElem_mem hlj, hb2⟩
                rw [this]
                simp
              have HK2 : Hid (KeysAre m (fun x => ∃ q ∈ fresh, q.name = x ∧ (p.needs.take (n + 1)).any (M.waitsG p q there) = true)) := HK.out.congr (fun x => exists_congr (fun q => and_congr Iff.rfl (and_congr Iff.rfl (by rw [HTake.out, hW, Bool.or_false]))))
              obtain ⟨hx1, hx2⟩ := hszw w5 hB35
              have HM5 : Hid (StrMap Tryz.prog 9 w5 (w.heap.size + 1) m) := HM.out.below hB35 HM.out.lt
              clear hb1 hb2 hW
              go_wp2
              go_roundw
              case rel => exact ⟨n + 1, m, by go_num, by omega, hx1, hx2, HM5, HK2, HLn⟩
              case measure => simp [intOf]; omega
            | false =>
              have HC2 : Hid (∀ c ∈ g.take (j + 1), M.fitsS c p = false ∧ (there.any fun q => M.fitsS c q) = false) := fun c hc => by
                rw [List.take_succ_eq_append_getElem hlj] at hc
                rcases List.mem_append.1 hc with hc | hc
                · exact HC.out c hc
                · simp at hc
                  subst hc
                  exact ⟨hb1, hb2⟩
              clear hb1 hb2
              go_wp2
              go_roundw
              case rel => exact ⟨j + 1, by go_num, by omega, hB35, HC2⟩
              case measure => simp [intOf]; omega
        · have hjj : j = g.length := by omega
          have hW : Hid (∀ q, M.waitsG p q there g = g.any (fun c => M.fitsS c q)) := fun q => by
            unfold M.waitsG
            have e1 : M.any1S g there = false := by
              unfold M.any1S
              rw [List.any_eq_false]
              intro c hc
              rw [(HC.out c (by rw [hjj, List.take_length]; exact hc)).2]
              simp
            have e2 : M.any1S g [p] = false := by
              rw [any1_self, List.any_eq_false]
              intro c hc
              rw [(HC.out c (by rw [hjj, List.take_length]; exact hc)).1]
              simp
            rw [e1, e2, any1_self]
            simp
          have HSt : Hid (Stands W2 wr) := Stands.of hBj
          have hBx : Below (w.heap.size + 1) W1 wr := hBr.trans (hBj.mono (by omega))
          have hszx : w.heap.size + 2 ≤ wr.heap.size := by have := hBj.size; omega
          have HMx : Hid (StrMap Tryz.prog 9 wr (w.heap.size + 1) m) := HM.out.below hBj HM.out.lt
          clear hjj HC
          go_wp2
          go_loopw [13, 39] (fun _ i wr => ∃ (j : Nat) (m2 : List KV), i = .int .i64 j ∧ j ≤ g.length ∧ Below (w.heap.size + 1) W1 wr ∧ w.heap.size + 2 ≤ wr.heap.size ∧ Hid (Stands W2 wr) ∧ Hid (StrMap Tryz.prog 9 wr (w.heap.size + 1) m2) ∧ Hid (KeysAre m2 (fun x => (∃ q ∈ fresh, q.name = x ∧ (p.needs.take n).any (M.waitsG p q there) = true) ∨ ∃ q ∈ fresh, q.name = x ∧ (g.take j).any (fun c => M.fitsS c q) = true)) ∧ Hid (m2.length ≤ n * 1000 + j)) (fun _ i _ => g.length - (intOf i).toNat)
          case atStart => exact ⟨0, m, rfl, Nat.zero_le _, hBx, hszx, HSt, HMx, HK.out.congr (fun x => by simp), HL⟩
          case round =>
            obtain ⟨j, m2, rfl, hj', hBy, hszy, HSy, HMy, HKy, HLy⟩ := hrel
            have hByw : Below w.heap.size w wr := HB1.out.trans (hBy.mono (by omega))
            by_cases hlj : j < g.length
            · obtain ⟨bg, rfl, hbg, hcapg, hcg⟩ := HRw.out.cellAt (by omega)
              obtain ⟨k0, k1, k2⟩ := ch_cell hlj
              obtain ⟨X, hX⟩ : ∃ X : ByteArray, X = ⟨g[j].name.toArray⟩ := ⟨_, rfl⟩
              have q0 : wr.cell? ⟨bg, j * 3, none⟩ = some (.string X) := by rw [hX]; exact HSy.out.cell _ _ _ (hcg _ _ k0)
              have q1 : wr.cell? ⟨bg, j * 3 + 1, none⟩ = some (.string ⟨g[j].sign.toArray⟩) := HSy.out.cell _ _ _ (hcg _ _ k1)
              have q2 : wr.cell? ⟨bg, j * 3 + 2, none⟩ = some (.string ⟨g[j].ver.toArray⟩) := HSy.out.cell _ _ _ (hcg _ _ k2)
              have hsc := HGs.out _ (List.getElem_mem hlj)
              have hXd : X.data.toList = g[j].name := by rw [hX]
              have hXs : X.size ≤ maxLen := by rw [size_of hXd]; unfold maxLen; omega
              have HXd : Hid (X.data.toList = g[j].name) := hXd
              have cH := fun wx (hb : Below w.heap.size w wx) => has_any ba fresh g[j] wx (HF.out.below hb) (fun q hq => (HSF.out q hq).smallQ.1) hsc.1 (by omega) (by omega)
              rw [← hX] at cH
              generalize hW3 : wr.alloc (.cells #[.string X, .string ⟨g[j].sign.toArray⟩, .string ⟨g[j].ver.toArray⟩] 156) = W3
              have h3 : Below wr.heap.size wr W3 := by rw [← hW3]; exact (Below.refl _ wr).alloc (Nat.le_refl _) _
              have HC3 : Hid (∀ i u, [Value.string X, .string ⟨g[j].sign.toArray⟩, .string ⟨g[j].ver.toArray⟩][i]? = some u → W3.cell? ⟨wr.heap.size, i, none⟩ = some u) := by rw [← hW3]; exact fun i u hu => new_at wr _ _ i u hu
              have t0 := HC3.out 0 _ rfl
              have t1 := HC3.out 1 _ rfl
              have t2 := HC3.out 2 _ rfl
              have H3 : Hid (Below wr.heap.size wr W3) := h3
              clear hcg k0 k1 k2 hsc hX h3 hXd
              go_wp2_with fail
              refine (cH _ (bt hByw H3.out)).mono ?_
              rintro e w5 ⟨rfl, hB5⟩
              have hB35 : Below wr.heap.size wr w5 := bt H3.out hB5
              have y0 := (hB5.cell (p := ⟨wr.heap.size, 0, none⟩) (World.block_lt_of_cell? _ _ t0)).trans t0
              have hw5 : Below w.heap.size w w5 := bt hByw hB35
              have hx1 : Below (w.heap.size + 1) W1 w5 := hBy.trans (hB35.mono (by omega))
              have hx2 : w.heap.size + 2 ≤ w5.heap.size := by have := hB35.size; omega
              have HM5 : Hid (StrMap Tryz.prog 9 w5 (w.heap.size + 1) m2) := HMy.out.below hB35 HMy.out.lt
              have HS5 : Hid (Stands W2 w5) := HSy.out.trans (Stands.of hB35)
              have HTk : Hid (∀ q, (g.take (j + 1)).any (fun c => M.fitsS c q) = ((g.take j).any (fun c => M.fitsS c q) || M.fitsS g[j] q)) := fun q => by rw [List.take_succ_eq_append_getElem hlj, List.any_append]; simp
              clear cH hB5 t0 t1 t2
              cases hb : (fresh.any fun q => M.fitsS g[j] q) with
              | true =>
                obtain ⟨f, hmf, hvf⟩ := HF.out.below hw5
                obtain ⟨Vv, hVv⟩ : ∃ Vv, (lookK (fresh.map fun p => (p.name, f p)) X.data.toList).getD zeroPk = Vv := ⟨_, rfl⟩
                have hlk : (Instr.lookup 135 (.map (some ba)) (.string X) false).run Tryz.prog w5 = .ok Vv w5 := by
                  rw [hmf.look Tryz.underlying9 setMap (zeroPk_run w5) hXs, hVv]
                have hm5 := HM5.out
                have hlen : m2.length < maxLen := by have := HLy.out; unfold maxLen; omega
                have HK5 : Hid (∀ v, KeysAre (putK m2 X.data.toList v) (fun x => (∃ q ∈ fresh, q.name = x ∧ (p.needs.take n).any (M.waitsG p q there) = true) ∨ ∃ q ∈ fresh, q.name = x ∧ (g.take (j + 1)).any (fun c => M.fitsS c q) = true)) := fun v => (HKy.out.put _ _).congr (fun x => by
                  constructor
                  · rintro ((h | ⟨q, hq, e, h⟩) | e)
                    · exact .inl h
                    · exact .inr ⟨q, hq, e, by rw [HTk.out, h, Bool.true_or]⟩
                    · obtain ⟨q, hq, hfit⟩ := List.any_eq_true.1 hb
                      exact .inr ⟨q, hq, by rw [e, HXd.out, fits_name hfit], by rw [HTk.out, hfit, Bool.or_true]⟩
                  · rintro (h | ⟨q, hq, e, h⟩)
                    · exact .inl (.inl h)
                    · rw [HTk.out, Bool.or_eq_true] at h
                      rcases h with h | h
                      · exact .inl (.inr ⟨q, hq, e, h⟩)
                      · exact .inr (by rw [HXd.out, fits_name h, e]))
                clear hmf hvf hVv hb
                go_wp2_with (first | (at_mapUpdate; refine wpList_put_str rfl _ _ _ rfl Tryz.underlying9 setMap (w.heap.size + 1) m2 rfl hm5 hlen X Vv rfl hXs rfl ?_; intro w6 hm6 hg6; go_frame) | go_in)
                have HM6 : Hid (StrMap Tryz.prog 9 w6 (w.heap.size + 1) (putK m2 X.data.toList Vv)) := hm6
                have HS6 : Hid (Stands W2 w6) := HS5.out.trans (Stands.put hm5 hm6 hg6)
                have hx3 : Below (w.heap.size + 1) W1 w6 := hx1.grown hg6 (by omega) (fun i hi => by cases hi; exact Nat.le_refl _)
                have hx4 : w.heap.size + 2 ≤ w6.heap.size := by have := hg6.size; omega
                have HL6 : Hid ((putK m2 X.data.toList Vv).length ≤ n * 1000 + (j + 1)) := by
                  show _ ≤ _
                  unfold putK
                  have := List.length_filter_le (fun q : KV => q.1 != X.data.toList) m2
                  have := HLy.out
                  simp only [List.length_cons]
                  omega
                clear hm6 hg6 hm5 hlk
                go_wp2
                go_roundw
                case rel => exact ⟨j + 1, _, by go_num, by omega, hx3, hx4, HS6, HM6, HK5.out _, HL6⟩
                case measure => simp [intOf]; omega
              | false =>
                have HK5 : Hid (KeysAre m2 (fun x => (∃ q ∈ fresh, q.name = x ∧ (p.needs.take n).any (M.waitsG p q there) = true) ∨ ∃ q ∈ fresh, q.name = x ∧ (g.take (j + 1)).any (fun c => M.fitsS c q) = true)) := HKy.out.congr (fun x => or_congr Iff.rfl (exists_congr (fun q => by
                  constructor
                  · rintro ⟨hq, e, h⟩; exact ⟨hq, e, by rw [HTk.out, h, Bool.true_or]⟩
                  · rintro ⟨hq, e, h⟩
                    rw [HTk.out, Bool.or_eq_true] at h
                    rcases h with h | h
                    · exact ⟨hq, e, h⟩
                    · have := List.any_eq_false.1 hb q hq
                      exact absurd h this)))
                have HL6 : Hid (m2.length ≤ n * 1000 + (j + 1)) := by show _ ≤ _; have := HLy.out; omega
                clear hb
                go_wp2
                go_roundw
                case rel => exact ⟨j + 1, m2, by go_num, by omega, hx1, hx2, HS5, HM5, HK5, HL6⟩
                case measure => simp [intOf]; omega
            · have hjj : j = g.length := by omega
              have HK6 : Hid (KeysAre m2 (fun x => ∃ q ∈ fresh, q.name = x ∧ (p.needs.take (n + 1)).any (M.waitsG p q there) = true)) := HKy.out.congr (fun x => by
                rw [hjj, List.take_length]
                constructor
                · rintro (⟨q, hq, e, h⟩ | ⟨q, hq, e, h⟩)
                  · exact ⟨q, hq, e, by rw [HTake.out, h, Bool.true_or]⟩
                  · exact ⟨q, hq, e, by rw [HTake.out, hW.out, h, Bool.or_true]⟩
                · rintro ⟨q, hq, e, h⟩
                  rw [HTake.out, hW.out, Bool.or_eq_true] at h
                  rcases h with h | h
                  · exact .inl ⟨q, hq, e, h⟩
                  · exact .inr ⟨q, hq, e, h⟩)
              have HL6 : Hid (m2.length ≤ (n + 1) * 1000) := by show _ ≤ _; have := HLy.out; omega
              clear hjj
              go_wp2
              go_roundw
              case rel => exact ⟨n + 1, m2, by go_num, by omega, hBy, hszy, HMy, HK6, HL6⟩
              case measure => simp [intOf]; omega
    · have hnn2 : n = p.needs.length := by omega
      have HKF : Hid (KeysAre m (fun x => ∃ q ∈ fresh, q.name = x ∧ M.waitsS p q there = true)) := by
        have h := HK.out
        rw [hnn2, List.take_length] at h
        exact h
      have HLF : Hid (m.length ≤ 2000000) := by show _ ≤ _; have := HL.out; omega
      clear hnn2
      go_wp2
      rw [Exit.noGoto_ret]
      go_wp2
      go_ret
      exact ⟨_, m, rfl, HM.out, HKF.out, HLF.out, hBw, by omega⟩
end Go.Proofs.YtgnfknjopafngaaGreatDoor
