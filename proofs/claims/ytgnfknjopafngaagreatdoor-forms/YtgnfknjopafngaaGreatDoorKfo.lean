import Derived.Test.YtgnfknjopafngaaGreatDoorKfn
import Derived.Defers
import Derived.Recover
import Derived.Test.YtgnfknjopafngaaGreatDoorKfm
import Derived.Shelf.Strconv.Clone
import Derived.Shelf.Slices.Clone
import Derived.Test.YtgnfknjopafngaaGreatDoorProg
namespace Go.Proofs.YtgnfknjopafngaaGreatDoor
open Go.RowKit
def CodePost (s : ByteArray) (w : World) (e : Ending) (w' : World) : Prop :=
  ∃ (T N : ByteArray) (a b c : Nat), e = .returned (.tuple #[.string T, .agg #[.int .i64 a, .int .i64 b, .int .i64 c, .string N]]) ∧ Below w.heap.size w w' ∧
    (∀ n, readB s = .inl n → T = ⟨#[]⟩ ∧ N = ⟨#[]⟩ ∧ a = 1 ∧ b = 0 ∧ c = n) ∧ ∀ p, readB s = .inr p → a = 0 ∧ T.data.toList = M.printS p
theorem PkVal.belowL {w w' : World} {p : M.Pk} {v : Value} (h : PkVal w p v) (hb : Below w.heap.size w w') : PkVal w' p v := by
  obtain ⟨nv, bv, fv, e, h1, h2, h3⟩ := h
  have kk : ∀ g o, 0 ≤ g → g < w.heap.size → CellS w w' g o := fun g o _ hg => belowS hb hg
  exact ⟨nv, bv, fv, e, (h1.keep kk).wide (Nat.le_refl _) hb.size, (h2.keep kk).wide (Nat.le_refl _) hb.size, (h3.keep kk).wide (Nat.le_refl _) hb.size⟩
theorem bytes_same {a b : ByteArray} (h : a.data.toList = b.data.toList) : a = b := by
  cases a with
  | mk x =>
    cases b with
    | mk y => exact congrArg ByteArray.mk (Array.toList_inj.mp h)
set_option maxRecDepth 100000 in
set_option maxHeartbeats 1000000 in
theorem sameFault_form (n : Nat) (w : World) :
    Calls Tryz.prog 15 #[.agg #[.int .i64 1, .int .i64 0, .int .i64 n, .string ⟨#[]⟩], .agg #[.int .i64 1, .int .i64 0, .int .i64 n, .string ⟨#[]⟩]] w fun e w' => e = .returned (.bool true) ∧ Below w.heap.size w w' := by
  go_enter Tryz.func15, Tryz.ntmps15
  go_wp2
  go_ret
  exact ⟨rfl, ((Below.refl _ w).alloc (Nat.le_refl _) _).alloc (by simp) _⟩
set_option maxRecDepth 100000 in
set_option maxHeartbeats 1000000 in
theorem forms_law (s : ByteArray) (w : World) (hcode : s.size ≤ 8192 → Calls Tryz.prog 13 #[.string s] w (CodePost s w)) (hs : s.size ≤ 140737488355327) :
    Calls Tryz.prog 3 #[.string s] w fun e w' => e = .returned (.bool true) ∧ Below w.heap.size w w' := by
  by_cases h : 8192 < s.size
  · go_enter Tryz.func3, Tryz.ntmps3
    go_wp2
    refine bodyPost_ret (v := .bool true) (by simp [results, Tryz.results3, go_sem]) rfl ⟨rfl, Below.refl _ _⟩
  · have cC := hcode (by omega)
    clear hcode
    go_enter Tryz.func3, Tryz.ntmps3
    go_wp2_with fail
    refine cC.mono ?_
    rintro e w1 ⟨T, N, a, b, c, rfl, hB, hno, hyes⟩
    clear cC
    have cR := refRead_any s (w1.alloc (.cells #[.int .i64 a, .int .i64 b, .int .i64 c, .string N] 23)) (by omega)
    go_wp2_with fail
    refine cR.mono ?_
    rintro e w2 ⟨v, rfl, hv, ⟨xa, xb, x1, n1, c1, x2, n2, c2, x3, n3, c3, rfl⟩, hB2⟩
    have hzw : w1.heap.size < w2.heap.size := by have := hB2.size; simp at this; omega
    obtain ⟨hcl, hfz⟩ := bcell hB2
    have k0 : ∀ o u, [Value.int .i64 a, .int .i64 b, .int .i64 c, .string N][o]? = some u → w2.cell? ⟨w1.heap.size, o, none⟩ = some u := fun o u hu => (hcl w1.heap.size o (by simp)).trans (new_at w1 _ _ o u hu)
    have z0 := k0 0 _ rfl
    have z1 := k0 1 _ rfl
    have z2 := k0 2 _ rfl
    have z3 := k0 3 _ rfl
    have HB : Hid (Below w.heap.size w w2) := hB.trans ((((Below.refl _ w1).alloc (Nat.le_refl _) _).trans (hB2.mono (by simp))).mono hB.size)
    clear k0 hcl hfz cR hB hB2
    cases hr : readB s with
    | inl n =>
      obtain ⟨rfl, rfl, rfl, rfl, rfl⟩ := hno n hr
      have el : lineOf (Sum.inl c : Sum Nat M.Pk) = (c : Int) := rfl
      rw [el]
      have hc0 : (0 : Int) ≤ c := by omega
      have cS := fun W => sameFault_form c W
      clear hno hyes hv hr
      go_wp2_with fail
      refine (cS _).mono ?_
      rintro e w3 ⟨rfl, hB3⟩
      go_wp2
      go_ret
      exact ⟨rfl, HB.out.trans ((((Below.refl _ w2).alloc (Nat.le_refl _) _).trans (hB3.mono (by simp))).mono HB.out.size)⟩
    | inr p =>
      obtain ⟨rfl, hT⟩ := hyes p hr
      have el : lineOf (Sum.inr p : Sum Nat M.Pk) = (-1 : Int) := rfl
      rw [el]
      have hP := (hv p hr).val
      have hSh := readS_short (s := s.data.toList) hr
      have cP := fun W hW => print_any p (.agg #[.string xa, .string xb, .slice x1 n1 c1, .slice x2 n2 c2, .slice x3 n3 c3]) W (hP.belowL hW) hSh
      clear hno hyes hv hr
      go_wp2_with fail
      refine (cP _ ?_).mono ?_
      · exact (Below.refl _ w2).alloc (Nat.le_refl _) _
      rintro e w3 ⟨S, rfl, hS, hB3⟩
      obtain rfl : T = S := bytes_same (hT.trans hS.symm)
      have HBF : Hid (Below w.heap.size w w3) := HB.out.trans ((((Below.refl _ w2).alloc (Nat.le_refl _) _).trans (hB3.mono (by simp))).mono HB.out.size)
      have y0 : w3.cell? ⟨w1.heap.size, 0, none⟩ = some (.int .i64 0) := (hB3.cell (p := ⟨w1.heap.size, 0, none⟩) (by simp; omega)).trans ((((Below.refl _ w2).alloc (Nat.le_refl _) _).cell (p := ⟨w1.heap.size, 0, none⟩) hzw).trans z0)
      clear z0 hS hT hB3 cP hP
      go_wp2
      go_ret
      exact ⟨rfl, HBF.out⟩
end Go.Proofs.YtgnfknjopafngaaGreatDoor
namespace Go.Proofs.YtgnfknjopafngaaGreatDoor
open Go.RowKit Go.Extern.Stop Go.Stop Go.Extern
set_option maxRecDepth 100000 in
set_option maxHeartbeats 1000000 in
theorem parts_nil (w : World) :
    Calls Tryz.prog 35 #[.nilIface] w fun e w' => e = .returned (.agg #[.int .i64 0, .int .i64 0, .int .i64 0, .string ⟨#[]⟩]) ∧ Below w.heap.size w w' := by
  go_enter Tryz.func35, Tryz.ntmps35
  go_wp2
  refine bodyPost_ret (v := .agg #[.int .i64 0, .int .i64 0, .int .i64 0, .string ⟨#[]⟩]) (by simp [results, Tryz.results35, go_sem]) rfl ⟨rfl, ?_⟩
  exact (Below.refl _ w).alloc (Nat.le_refl _) _
structure FaultAt (w : World) (pb a b c : Nat) (N : ByteArray) : Prop where
  c0 : w.cell? ⟨pb, 0, none⟩ = some (.int .i64 a)
  c1 : w.cell? ⟨pb, 1, none⟩ = some (.int .i64 b)
  c2 : w.cell? ⟨pb, 2, none⟩ = some (.int .i64 c)
  c3 : w.cell? ⟨pb, 3, none⟩ = some (.string N)
theorem FaultAt.lt {w : World} {pb a b c : Nat} {N : ByteArray} (h : FaultAt w pb a b c N) : pb < w.heap.size := by
  have h0 := h.c0
  rcases Nat.lt_or_ge pb w.heap.size with h | h
  · exact h
  · simp [World.cell?, Array.getElem?_eq_none h] at h0
set_option maxRecDepth 100000 in
set_option maxHeartbeats 1000000 in
theorem parts_fault (w : World) (pb a b c : Nat) (N : ByteArray) (hg : ErrLaid w) (hF : FaultAt w pb a b c N) (ha : 1 ≤ a) (ha8 : a ≤ 8) :
    Calls Tryz.prog 35 #[.iface 112 (.pointer (some ⟨pb, 0, none⟩))] w fun e w' => e = .returned (.agg #[.int .i64 a, .int .i64 b, .int .i64 c, .string N]) ∧ Below w.heap.size w w' := by
  have hpb := hF.lt
  have cA := fun W hW h1 h2 => as_hit ⟨pb, 0, none⟩ ⟨w.heap.size + 1, 0, none⟩ (.pointer none) W (hg.below hW) h1 h2
  go_enter Tryz.func35, Tryz.ntmps35
  go_wp2_with fail
  refine (cA _ ?_ ?_ ?_).mono ?_
  · exact ((Below.refl _ w).alloc (Nat.le_refl _) _).alloc (by simp) _
  · simp
  · simp
  rintro e w3 ⟨rfl, W, hW, hw3⟩
  have hBW : Below w.heap.size w W := (((Below.refl _ w).alloc (Nat.le_refl _) _).alloc (by simp) _).trans (hW.mono (by simp; omega))
  have hsz : w.heap.size + 1 < W.heap.size := by have := hW.size; simp at this; omega
  have hr : ∀ o u, [Value.int .i64 0, .int .i64 0, .int .i64 0, .string ⟨#[]⟩][o]? = some u → w3.cell? ⟨w.heap.size, o, none⟩ = some u := fun o u hu => by
    rw [hw3, cell_set_block _ _ _ _ _ _ (by omega), hW.cell (p := ⟨w.heap.size, o, none⟩) (by simp; omega)]
    exact (((Below.refl _ (w.alloc _)).alloc (Nat.le_refl _) _).cell (p := ⟨w.heap.size, o, none⟩) (by simp)).trans (new_at w _ _ o u hu)
  have hp : ∀ o, w3.cell? ⟨pb, o, none⟩ = w.cell? ⟨pb, o, none⟩ := fun o => by
    rw [hw3, cell_set_block _ _ _ _ _ _ (by omega)]
    exact hBW.cell (p := ⟨pb, o, none⟩) hpb
  have hfz : ∀ o, w3.frozen? ⟨w.heap.size, o, none⟩ = false := fun o => by
    rw [hw3, World.frozen?_setCell, hW.frozen (p := ⟨w.heap.size, o, none⟩) (by simp; omega)]
    exact (((Below.refl _ (w.alloc _)).alloc (Nat.le_refl _) _).frozen (p := ⟨w.heap.size, o, none⟩) (by simp)).trans (by unfold World.frozen?; rw [(MapKept.heap_alloc w _).1]; simp)
  have qf : w3.cell? ⟨w.heap.size + 1, 0, none⟩ = some (.pointer (some ⟨pb, 0, none⟩)) := by
    rw [hw3]
    exact World.cell?_setCell_same _ _ _ ((hW.cell (p := ⟨w.heap.size + 1, 0, none⟩) (by simp)).trans (by simp; rfl))
  have hB3 : Below w.heap.size w w3 := by rw [hw3]; exact hBW.setCell (by show w.heap.size ≤ w.heap.size + 1; omega) _
  have hs3 : w.heap.size + 1 < w3.heap.size := by rw [hw3, size_set]; exact hsz
  have p0 := (hp 0).trans hF.c0
  have p1 := (hp 1).trans hF.c1
  have p2 := (hp 2).trans hF.c2
  have p3 := (hp 3).trans hF.c3
  have r0 := hr 0 _ rfl
  have r1 := hr 1 _ rfl
  have r2 := hr 2 _ rfl
  have r3 := hr 3 _ rfl
  clear hr hp hw3 hW hBW hsz cA hF
  have ha0 : ((a : Int) == 0) = false := by rw [beq_eq_false_iff_ne]; omega
  go_wp2
  go_loopw [4] (fun i wr => ∃ (k n : Nat), i = .int .i64 k ∧ k ≤ 9 ∧ wr = w3.drewN n) (fun i _ => 9 - (intOf i).toNat)
  case atStart => exact ⟨0, 0, rfl, by omega, rfl⟩
  case round =>
    obtain ⟨k, n, rfl, hk, rfl⟩ := hrel
    by_cases hlt : k ≤ 8
    · have hlt' : (k : Int) ≤ 8 := by omega
      by_cases hka : (a : Int) = k
      · have e1 : ((k : Int) == a) = true := by rw [beq_iff_eq]; exact hka.symm
        have cI : ∀ m, Calls Tryz.prog 58 #[.iface 112 (.pointer (some ⟨pb, 0, none⟩)), .iface 115 (.int .i64 k)] (w3.drewN m) fun e w' => e = .returned (.bool true) ∧ w' = w3.drewN m := fun m => (is_kind pb a k (w3.drewN m) p0).mono fun e w' ⟨h1, h2⟩ => ⟨by rw [h1, decide_eq_true hka], h2⟩
        clear hka
        go_wp2
        go_quiet ((go_at_call 58; go_must (exact quiet_add (cI _))))
        go_wp2
        go_roundw
        case rel => exact ⟨k + 1, _, by go_num, by omega, rfl⟩
        case measure => simp [intOf]; omega
      · have e1 : ((k : Int) == a) = false := by rw [beq_eq_false_iff_ne]; exact fun h => hka h.symm
        have cI : ∀ m, Calls Tryz.prog 58 #[.iface 112 (.pointer (some ⟨pb, 0, none⟩)), .iface 115 (.int .i64 k)] (w3.drewN m) fun e w' => e = .returned (.bool false) ∧ w' = w3.drewN m := fun m => (is_kind pb a k (w3.drewN m) p0).mono fun e w' ⟨h1, h2⟩ => ⟨by rw [h1, decide_eq_false hka], h2⟩
        clear hka
        go_wp2
        go_quiet ((go_at_call 58; go_must (exact quiet_add (cI _))))
        go_wp2
        go_roundw
        case rel => exact ⟨k + 1, _, by go_num, by omega, rfl⟩
        case measure => simp [intOf]; omega
    · have hlt' : ¬ (k : Int) ≤ 8 := by omega
      go_wp2
      go_region
      go_wp2
      refine bodyPost_ret (v := .agg #[.int .i64 a, .int .i64 b, .int .i64 c, .string N]) (by simp [results, Tryz.results35, go_sem, r0, r1, r2, r3]) rfl ⟨rfl, ?_⟩
      exact ((((below_drewN hB3 _).setCell (Nat.le_refl _) _).setCell (Nat.le_refl _) _).setCell (Nat.le_refl _) _).setCell (Nat.le_refl _) _
end Go.Proofs.YtgnfknjopafngaaGreatDoor
namespace Go.Proofs.YtgnfknjopafngaaGreatDoor
open Go.RowKit Go.Extern.Stop Go.Stop Go.Extern
def OwnPost (s : ByteArray) (w : World) (e : Ending) (w' : World) : Prop :=
  Below w.heap.size w w' ∧ ((∃ n pb, readB s = .inl n ∧ e = .returned (.tuple #[.string ⟨#[]⟩, .iface 112 (.pointer (some ⟨pb, 0, none⟩))]) ∧ FaultAt w' pb 1 0 n ⟨#[]⟩) ∨
    (∃ p T, readB s = .inr p ∧ e = .returned (.tuple #[.string T, .nilIface]) ∧ T.data.toList = M.printS p))
def Ready (w : World) : Prop := ErrLaid w ∧ ∃ m, w.cell? ⟨1, 0, none⟩ = some (.int .i64 m)
theorem Ready.below {w w' : World} (h : Ready w) (hb : Below w.heap.size w w') : Ready w' := by
  obtain ⟨h1, m, h2⟩ := h
  have hlt : 1 < w.heap.size := by
    rcases Nat.lt_or_ge 1 w.heap.size with h | h
    · exact h
    · simp [World.cell?, Array.getElem?_eq_none h] at h2
  exact ⟨h1.below hb, m, (hb.cell (p := ⟨1, 0, none⟩) hlt).trans h2⟩
theorem printS_ne (p : M.Pk) (T : ByteArray) (h : T.data.toList = M.printS p) : T.toList.isEmpty = false := by
  rw [Lib.toList_data, h]
  rfl
set_option maxRecDepth 100000 in
set_option maxHeartbeats 1000000 in
theorem plain_read (s : ByteArray) (w : World) (hg0 : Ready w) (hown : ∀ w, Ready w → Calls Tryz.prog 34 #[.string s] w (OwnPost s w)) :
    Calls Tryz.prog 13 #[.string s] w (CodePost s w) := by
  have hB0 : Below w.heap.size w (w.alloc (.cells #[.int .i64 0, .int .i64 0, .int .i64 0, .string ⟨#[]⟩] 23)) := (Below.refl _ w).alloc (Nat.le_refl _) _
  have hg := hg0.1
  have cO := hown _ (hg0.below hB0)
  go_enter Tryz.func13, Tryz.ntmps13
  go_wp2_with fail
  refine cO.mono ?_
  rintro e w1 ⟨hB1, ⟨n, pb, hr, rfl, hF⟩ | ⟨p, T, hr, rfl, hT⟩⟩
  · have hB2 : Below w.heap.size w w1 := hB0.trans (hB1.mono (by simp))
    have cP := parts_fault w1 pb 1 0 n ⟨#[]⟩ (hg.below hB2) hF (by decide) (by decide)
    go_wp2_with fail
    refine cP.mono ?_
    rintro e w2 ⟨rfl, hB3⟩
    go_wp2
    generalize hW4 : w2.alloc (.cells #[Value.int .i64 1, .int .i64 0, .int .i64 n, .string ⟨#[]⟩] 23) = w4
    have hB4 : Below w1.heap.size w1 w4 := by rw [← hW4]; exact hB3.alloc hB3.size _
    have hz1 : w.heap.size < w1.heap.size := by have := hB1.size; simp at this; omega
    have hz : ∀ o u, [Value.int .i64 0, .int .i64 0, .int .i64 0, .string ⟨#[]⟩][o]? = some u → w4.cell? ⟨w.heap.size, o, none⟩ = some u := fun o u hu => (hB4.cell (p := ⟨w.heap.size, o, none⟩) hz1).trans ((hB1.cell (p := ⟨w.heap.size, o, none⟩) (by simp)).trans (new_at w _ _ o u hu))
    have z0 := hz 0 _ rfl
    have z1 := hz 1 _ rfl
    have z2 := hz 2 _ rfl
    have z3 := hz 3 _ rfl
    have zf : ∀ o, w4.frozen? ⟨w.heap.size, o, none⟩ = false := fun o => (hB4.frozen (p := ⟨w.heap.size, o, none⟩) hz1).trans ((hB1.frozen (p := ⟨w.heap.size, o, none⟩) (by simp)).trans (by unfold World.frozen?; rw [(MapKept.heap_alloc w _).1]; simp))
    have hy : ∀ o u, [Value.int .i64 1, .int .i64 0, .int .i64 n, .string ⟨#[]⟩][o]? = some u → w4.cell? ⟨w2.heap.size, o, none⟩ = some u := fun o u hu => by rw [← hW4]; exact new_at w2 _ _ o u hu
    have y0 := hy 0 _ rfl
    have y1 := hy 1 _ rfl
    have y2 := hy 2 _ rfl
    have y3 := hy 3 _ rfl
    have HB4 : Hid (Below w.heap.size w w4) := hB2.trans (hB4.mono hB2.size)
    clear hz hy hW4 hB4 hB3 hB1 hB0 cP
    go_region
    go_wp2
    refine bodyPost_ret (v := .tuple #[.string ⟨#[]⟩, .agg #[.int .i64 1, .int .i64 0, .int .i64 n, .string ⟨#[]⟩]]) (by simp [results, Tryz.results13, go_sem, z0, z1, z2, z3]) rfl ⟨⟨#[]⟩, ⟨#[]⟩, 1, 0, n, rfl, ?_, ?_, ?_⟩
    · exact ((((HB4.out.setCell (Nat.le_refl _) _).setCell (Nat.le_refl _) _).setCell (Nat.le_refl _) _).setCell (Nat.le_refl _) _).drew
    · intro m hm; rw [hr] at hm; cases hm; exact ⟨rfl, rfl, rfl, rfl, rfl⟩
    · intro q hq; rw [hr] at hq; cases hq
  · have hB2 : Below w.heap.size w w1 := hB0.trans (hB1.mono (by simp))
    have cP := parts_nil w1
    have hne := printS_ne p T hT
    go_wp2_with fail
    refine cP.mono ?_
    rintro e w2 ⟨rfl, hB3⟩
    go_wp2
    generalize hW4 : w2.alloc (.cells #[Value.int .i64 0, .int .i64 0, .int .i64 0, .string ⟨#[]⟩] 23) = w4
    have hB4 : Below w1.heap.size w1 w4 := by rw [← hW4]; exact hB3.alloc hB3.size _
    have hz1 : w.heap.size < w1.heap.size := by have := hB1.size; simp at this; omega
    have hz : ∀ o u, [Value.int .i64 0, .int .i64 0, .int .i64 0, .string ⟨#[]⟩][o]? = some u → w4.cell? ⟨w.heap.size, o, none⟩ = some u := fun o u hu => (hB4.cell (p := ⟨w.heap.size, o, none⟩) hz1).trans ((hB1.cell (p := ⟨w.heap.size, o, none⟩) (by simp)).trans (new_at w _ _ o u hu))
    have z0 := hz 0 _ rfl
    have z1 := hz 1 _ rfl
    have z2 := hz 2 _ rfl
    have z3 := hz 3 _ rfl
    have zf : ∀ o, w4.frozen? ⟨w.heap.size, o, none⟩ = false := fun o => (hB4.frozen (p := ⟨w.heap.size, o, none⟩) hz1).trans ((hB1.frozen (p := ⟨w.heap.size, o, none⟩) (by simp)).trans (by unfold World.frozen?; rw [(MapKept.heap_alloc w _).1]; simp))
    have hy : ∀ o u, [Value.int .i64 0, .int .i64 0, .int .i64 0, .string ⟨#[]⟩][o]? = some u → w4.cell? ⟨w2.heap.size, o, none⟩ = some u := fun o u hu => by rw [← hW4]; exact new_at w2 _ _ o u hu
    have y0 := hy 0 _ rfl
    have y1 := hy 1 _ rfl
    have y2 := hy 2 _ rfl
    have y3 := hy 3 _ rfl
    have HB4 : Hid (Below w.heap.size w w4) := hB2.trans (hB4.mono hB2.size)
    clear hz hy hW4 hB4 hB3 hB1 hB0 cP
    go_region
    go_wp2
    refine bodyPost_ret (v := .tuple #[.string T, .agg #[.int .i64 0, .int .i64 0, .int .i64 0, .string ⟨#[]⟩]]) (by simp [results, Tryz.results13, go_sem, z0, z1, z2, z3]) rfl ⟨T, ⟨#[]⟩, 0, 0, 0, rfl, ?_, ?_, ?_⟩
    · exact ((((HB4.out.setCell (Nat.le_refl _) _).setCell (Nat.le_refl _) _).setCell (Nat.le_refl _) _).setCell (Nat.le_refl _) _).drew
    · intro m hm; rw [hr] at hm; cases hm
    · intro q hq; rw [hr] at hq; cases hq; exact ⟨rfl, hT⟩
end Go.Proofs.YtgnfknjopafngaaGreatDoor
namespace Go.Proofs.YtgnfknjopafngaaGreatDoor
open Go.RowKit
set_option maxRecDepth 100000 in
set_option maxHeartbeats 2000000 in
theorem catch_idle (a b c : Addr) (w : World) :
    CallsD Tryz.prog 82 #[.pointer (some a), .pointer (some b), .pointer (some c)] .returning w fun e u' w' => e = .returned (.tuple #[]) ∧ u' = .returning ∧ w' = w := by
  refine callsD_of_wpS Tryz.func82 rfl fun c₀ cs hu => ?_
  apply wpS_seq
  apply wpS_region
  simp [wpOpsS, go_sem, recoverD, hu, Tryz.ntmps82, Exit.thenS]
  apply wpS_seq
  apply wpS_region
  simp [wpOpsS, go_sem, Exit.thenS, Array.replicate]
  refine wpS_cond (t := false) (by simp [Act.eval]) ?_
  simp only [Bool.false_eq_true, if_false]
  refine wpS_of_wp (wp_skip ?_)
  cases c₀
  simp_all [bodyPostS, results, Tryz.results82]
def caughtW (pb eb : Nat) (n : Int) (w : World) : World :=
  ((((((w.setCell ⟨pb, 0, none⟩ (.string ⟨#[]⟩)).setCell ⟨pb, 1, none⟩ (.string ⟨#[]⟩)).setCell ⟨pb, 2, none⟩ (.slice none 0 0)).setCell ⟨pb, 3, none⟩ (.slice none 0 0)).setCell ⟨pb, 4, none⟩ (.slice none 0 0)).setCell ⟨eb, 0, none⟩ (.iface 112 (.pointer (some ⟨w.heap.size, 0, none⟩)))).alloc (.cells #[.int .i64 1, .int .i64 0, .int .i64 n, .string ⟨#[]⟩] 117)
set_option maxRecDepth 100000 in
set_option maxHeartbeats 2000000 in
theorem catch_panicking (rb pb eb : Nat) (n : Int) (w : World) (older : List PanicEntry) (hc : w.cell? ⟨rb, 1, none⟩ = some (.int .i64 n)) (hp : ∀ j, j < 5 → ∃ u, w.cell? ⟨pb, j, none⟩ = some u) (hpz : ∀ o, w.frozen? ⟨pb, o, none⟩ = false) (u0 : Value) (he : w.cell? ⟨eb, 0, none⟩ = some u0) (hez : w.frozen? ⟨eb, 0, none⟩ = false) (hne : eb ≠ pb) :
    CallsD Tryz.prog 82 #[.pointer (some ⟨rb, 0, none⟩), .pointer (some ⟨pb, 0, none⟩), .pointer (some ⟨eb, 0, none⟩)] (.panicking ({ v := .iface 115 (.int .i64 1), recovered := false } :: older)) w fun e u' w' =>
      e = .returned (.tuple #[]) ∧ u' = .panicking ({ v := .iface 115 (.int .i64 1), recovered := true } :: older) ∧ w' = caughtW pb eb n w := by
  obtain ⟨v0, e0⟩ := hp 0 (by decide)
  obtain ⟨v1, e1⟩ := hp 1 (by decide)
  obtain ⟨v2, e2⟩ := hp 2 (by decide)
  obtain ⟨v3, e3⟩ := hp 3 (by decide)
  obtain ⟨v4, e4⟩ := hp 4 (by decide)
  have hpl : pb < w.heap.size := World.block_lt_of_cell? _ _ e0
  have hel : eb < w.heap.size := World.block_lt_of_cell? _ _ he
  have hpn : pb ≠ w.heap.size := by omega
  have hen : eb ≠ w.heap.size := by omega
  clear hp
  refine callsD_of_wpS Tryz.func82 rfl fun c₀ cs hu => ?_
  apply wpS_seq
  apply wpS_region
  simp [wpOpsS, go_sem, recoverD, hu, Tryz.ntmps82, Exit.thenS]
  apply wpS_seq
  apply wpS_region
  simp [wpOpsS, go_sem, Exit.thenS, Array.replicate]
  refine wpS_cond (t := true) (by simp [Act.eval]) ?_
  simp only [if_true]
  refine wpS_of_wp ?_
  go_wp2
  simp [bodyPostS, results, Tryz.results82, caughtW]
end Go.Proofs.YtgnfknjopafngaaGreatDoor
namespace Go.Proofs.YtgnfknjopafngaaGreatDoor
open Go.RowKit
def PrPost (s : ByteArray) (w : World) (e : Ending) (w' : World) : Prop :=
  Below w.heap.size w w' ∧ match M.readS s.data.toList with
    | .inl n => ∃ fb, e = .returned (.tuple #[.agg #[.string ⟨#[]⟩, .string ⟨#[]⟩, .slice none 0 0, .slice none 0 0, .slice none 0 0], .iface 112 (.pointer (some ⟨fb, 0, none⟩))]) ∧ FaultAt w' fb 1 0 n ⟨#[]⟩
    | .inr p => ∃ v, e = .returned (.tuple #[v, .nilIface]) ∧ PkFrom w.heap.size w' p v
structure Caught (pb eb n : Nat) (w W Y : World) : Prop where
  c0 : Y.cell? ⟨pb, 0, none⟩ = some (.string ⟨#[]⟩)
  c1 : Y.cell? ⟨pb, 1, none⟩ = some (.string ⟨#[]⟩)
  c2 : Y.cell? ⟨pb, 2, none⟩ = some (.slice none 0 0)
  c3 : Y.cell? ⟨pb, 3, none⟩ = some (.slice none 0 0)
  c4 : Y.cell? ⟨pb, 4, none⟩ = some (.slice none 0 0)
  ce : Y.cell? ⟨eb, 0, none⟩ = some (.iface 112 (.pointer (some ⟨W.heap.size, 0, none⟩)))
  f : FaultAt Y W.heap.size 1 0 n ⟨#[]⟩
  b : Below w.heap.size w Y
theorem caught_is (pb eb n : Nat) (w W : World) (hp : ∀ j, j < 5 → ∃ u, W.cell? ⟨pb, j, none⟩ = some u) (u0 : Value) (he : W.cell? ⟨eb, 0, none⟩ = some u0) (hne : eb ≠ pb) (hb : Below w.heap.size w W) (h1 : w.heap.size ≤ pb) (h2 : w.heap.size ≤ eb) :
    Caught pb eb n w W (caughtW pb eb n W) := by
  obtain ⟨v0, e0⟩ := hp 0 (by decide)
  have hpl : pb < W.heap.size := World.block_lt_of_cell? _ _ e0
  have hel : eb < W.heap.size := World.block_lt_of_cell? _ _ he
  obtain ⟨z0, z1, z2, z3, z4⟩ := set5 W pb (.string ⟨#[]⟩) (.string ⟨#[]⟩) (.slice none 0 0) (.slice none 0 0) (.slice none 0 0) hp
  unfold caughtW
  have hs : ((((((W.setCell ⟨pb, 0, none⟩ (.string ⟨#[]⟩)).setCell ⟨pb, 1, none⟩ (.string ⟨#[]⟩)).setCell ⟨pb, 2, none⟩ (.slice none 0 0)).setCell ⟨pb, 3, none⟩ (.slice none 0 0)).setCell ⟨pb, 4, none⟩ (.slice none 0 0)).setCell ⟨eb, 0, none⟩ (.iface 112 (.pointer (some ⟨W.heap.size, 0, none⟩)))).heap.size = W.heap.size := by
    rw [setC_size, setC_size, setC_size, setC_size, setC_size, setC_size]
  have hbs : Below w.heap.size w ((((((W.setCell ⟨pb, 0, none⟩ (.string ⟨#[]⟩)).setCell ⟨pb, 1, none⟩ (.string ⟨#[]⟩)).setCell ⟨pb, 2, none⟩ (.slice none 0 0)).setCell ⟨pb, 3, none⟩ (.slice none 0 0)).setCell ⟨pb, 4, none⟩ (.slice none 0 0)).setCell ⟨eb, 0, none⟩ (.iface 112 (.pointer (some ⟨W.heap.size, 0, none⟩)))) := (((((hb.setCell h1 _).setCell h1 _).setCell h1 _).setCell h1 _).setCell h1 _).setCell h2 _
  have hce : ((((((W.setCell ⟨pb, 0, none⟩ (.string ⟨#[]⟩)).setCell ⟨pb, 1, none⟩ (.string ⟨#[]⟩)).setCell ⟨pb, 2, none⟩ (.slice none 0 0)).setCell ⟨pb, 3, none⟩ (.slice none 0 0)).setCell ⟨pb, 4, none⟩ (.slice none 0 0)).setCell ⟨eb, 0, none⟩ (.iface 112 (.pointer (some ⟨W.heap.size, 0, none⟩)))).cell? ⟨eb, 0, none⟩ = some (.iface 112 (.pointer (some ⟨W.heap.size, 0, none⟩))) := by
    rw [World.cell?_setCell_same _ _ _ (by rw [setC_blk _ _ _ _ _ _ hne, setC_blk _ _ _ _ _ _ hne, setC_blk _ _ _ _ _ _ hne, setC_blk _ _ _ _ _ _ hne, setC_blk _ _ _ _ _ _ hne]; exact he)]
  have hcp : ∀ j u, (((((W.setCell ⟨pb, 0, none⟩ (.string ⟨#[]⟩)).setCell ⟨pb, 1, none⟩ (.string ⟨#[]⟩)).setCell ⟨pb, 2, none⟩ (.slice none 0 0)).setCell ⟨pb, 3, none⟩ (.slice none 0 0)).setCell ⟨pb, 4, none⟩ (.slice none 0 0)).cell? ⟨pb, j, none⟩ = some u →
      ((((((W.setCell ⟨pb, 0, none⟩ (.string ⟨#[]⟩)).setCell ⟨pb, 1, none⟩ (.string ⟨#[]⟩)).setCell ⟨pb, 2, none⟩ (.slice none 0 0)).setCell ⟨pb, 3, none⟩ (.slice none 0 0)).setCell ⟨pb, 4, none⟩ (.slice none 0 0)).setCell ⟨eb, 0, none⟩ (.iface 112 (.pointer (some ⟨W.heap.size, 0, none⟩)))).cell? ⟨pb, j, none⟩ = some u := fun j u h => by
    rw [setC_blk _ _ _ _ _ _ (Ne.symm hne)]; exact h
  generalize ((((((W.setCell ⟨pb, 0, none⟩ (.string ⟨#[]⟩)).setCell ⟨pb, 1, none⟩ (.string ⟨#[]⟩)).setCell ⟨pb, 2, none⟩ (.slice none 0 0)).setCell ⟨pb, 3, none⟩ (.slice none 0 0)).setCell ⟨pb, 4, none⟩ (.slice none 0 0)).setCell ⟨eb, 0, none⟩ (.iface 112 (.pointer (some ⟨W.heap.size, 0, none⟩)))) = X at hs hbs hce hcp ⊢
  obtain ⟨_, _, hcl, _⟩ := newB X [.int .i64 1, .int .i64 0, .int .i64 n, .string ⟨#[]⟩] 117 0
  rw [hs] at hcl
  have past : ∀ g o u, g < W.heap.size → X.cell? ⟨g, o, none⟩ = some u → (X.alloc (.cells #[.int .i64 1, .int .i64 0, .int .i64 n, .string ⟨#[]⟩] 117)).cell? ⟨g, o, none⟩ = some u := fun g o u hg h => (World.cell?_alloc_past _ _ _ (by show g < X.heap.size; rw [hs]; exact hg)).trans h
  exact ⟨past _ _ _ hpl (hcp _ _ z0), past _ _ _ hpl (hcp _ _ z1), past _ _ _ hpl (hcp _ _ z2), past _ _ _ hpl (hcp _ _ z3), past _ _ _ hpl (hcp _ _ z4), past _ _ _ hel hce,
    ⟨hcl 0 _ rfl, hcl 1 _ rfl, hcl 2 _ rfl, hcl 3 _ rfl⟩, hbs.alloc (by rw [hs]; exact hb.size) _⟩
theorem pr_fault {s : ByteArray} {pb eb n : Nat} {w W Y : World} (h : Caught pb eb n w W Y) (hr : M.readS s.data.toList = .inl n) : PrPost s w (.returned (.tuple #[.agg #[.string ⟨#[]⟩, .string ⟨#[]⟩, .slice none 0 0, .slice none 0 0, .slice none 0 0], .iface 112 (.pointer (some ⟨W.heap.size, 0, none⟩))])) Y := by
  refine ⟨h.b, ?_⟩
  rw [hr]
  exact ⟨_, rfl, h.f⟩
abbrev read3 (w : World) (x y : Value) : World := ((w.alloc (.cells #[.string ⟨#[]⟩, .string ⟨#[]⟩, .slice none 0 0, .slice none 0 0, .slice none 0 0] 108)).alloc (.cells #[.nilIface] 67)).alloc (.cells #[x, y] 148)
theorem read3_is (w : World) (x y : Value) : (read3 w x y).heap.size = w.heap.size + 3 ∧ Below w.heap.size w (read3 w x y) ∧ (∀ j, j < 5 → ∃ u, (read3 w x y).cell? ⟨w.heap.size, j, none⟩ = some u) ∧ (∀ o, (read3 w x y).frozen? ⟨w.heap.size, o, none⟩ = false) ∧
    (read3 w x y).cell? ⟨w.heap.size + 1, 0, none⟩ = some .nilIface ∧ (read3 w x y).frozen? ⟨w.heap.size + 1, 0, none⟩ = false ∧
    (read3 w x y).cell? ⟨w.heap.size + 1 + 1, 0, none⟩ = some x ∧ (read3 w x y).cell? ⟨w.heap.size + 1 + 1, 1, none⟩ = some y ∧ ∀ o, (read3 w x y).frozen? ⟨w.heap.size + 1 + 1, o, none⟩ = false := by
  obtain ⟨a1, a2, a3, a4⟩ := newB w [.string ⟨#[]⟩, .string ⟨#[]⟩, .slice none 0 0, .slice none 0 0, .slice none 0 0] 108 0
  replace a1 : Below w.heap.size w (w.alloc (.cells #[.string ⟨#[]⟩, .string ⟨#[]⟩, .slice none 0 0, .slice none 0 0, .slice none 0 0] 108)) := a1
  replace a2 : (w.alloc (.cells #[.string ⟨#[]⟩, .string ⟨#[]⟩, .slice none 0 0, .slice none 0 0, .slice none 0 0] 108)).heap.size = w.heap.size + 1 := a2
  replace a3 : ∀ j u, [Value.string ⟨#[]⟩, .string ⟨#[]⟩, .slice none 0 0, .slice none 0 0, .slice none 0 0][j]? = some u → (w.alloc (.cells #[.string ⟨#[]⟩, .string ⟨#[]⟩, .slice none 0 0, .slice none 0 0, .slice none 0 0] 108)).cell? ⟨w.heap.size, j, none⟩ = some u := a3
  replace a4 : ∀ o, (w.alloc (.cells #[.string ⟨#[]⟩, .string ⟨#[]⟩, .slice none 0 0, .slice none 0 0, .slice none 0 0] 108)).frozen? ⟨w.heap.size, o, none⟩ = false := a4
  unfold read3
  generalize w.alloc (.cells #[.string ⟨#[]⟩, .string ⟨#[]⟩, .slice none 0 0, .slice none 0 0, .slice none 0 0] 108) = w1 at a1 a2 a3 a4 ⊢
  obtain ⟨b1, b2, b3, b4⟩ := newB w1 [.nilIface] 67 0
  replace b1 : Below w1.heap.size w1 (w1.alloc (.cells #[.nilIface] 67)) := b1
  replace b2 : (w1.alloc (.cells #[.nilIface] 67)).heap.size = w1.heap.size + 1 := b2
  replace b3 : (w1.alloc (.cells #[.nilIface] 67)).cell? ⟨w1.heap.size, 0, none⟩ = some .nilIface := b3 0 _ rfl
  replace b4 : (w1.alloc (.cells #[.nilIface] 67)).frozen? ⟨w1.heap.size, 0, none⟩ = false := b4 0
  generalize w1.alloc (.cells #[.nilIface] 67) = w2 at b1 b2 b3 b4 ⊢
  obtain ⟨d1, d2, d3, d4⟩ := newB w2 [x, y] 148 0
  replace d1 : Below w2.heap.size w2 (w2.alloc (.cells #[x, y] 148)) := d1
  replace d2 : (w2.alloc (.cells #[x, y] 148)).heap.size = w2.heap.size + 1 := d2
  replace d3 : ∀ j u, [x, y][j]? = some u → (w2.alloc (.cells #[x, y] 148)).cell? ⟨w2.heap.size, j, none⟩ = some u := d3
  replace d4 : ∀ o, (w2.alloc (.cells #[x, y] 148)).frozen? ⟨w2.heap.size, o, none⟩ = false := d4
  generalize w2.alloc (.cells #[x, y] 148) = w3 at d1 d2 d3 d4 ⊢
  rw [a2] at b3 b4 b1 b2
  rw [b2] at d1 d2 d3 d4
  have e13 : Below (w.heap.size + 1) w1 w3 := b1.trans (d1.mono (by omega))
  refine ⟨by omega, a1.trans (e13.mono (by omega)), fun j hj => ?_, fun o => (e13.frozen (p := ⟨w.heap.size, o, none⟩) (Nat.lt_succ_self _)).trans (a4 o), (d1.cell (p := ⟨w.heap.size + 1, 0, none⟩) (Nat.lt_succ_self _)).trans b3, (d1.frozen (p := ⟨w.heap.size + 1, 0, none⟩) (Nat.lt_succ_self _)).trans b4, d3 0 _ rfl, d3 1 _ rfl, d4⟩
  exact ⟨_, (e13.cell (p := ⟨w.heap.size, j, none⟩) (Nat.lt_succ_self _)).trans (a3 j _ (List.getElem?_eq_getElem (by simpa using hj)))⟩
set_option maxRecDepth 100000 in
set_option maxHeartbeats 2000000 in
theorem read_pLong (s : ByteArray) (w : World) (h : 300 < s.size) (hs : s.size ≤ 8192) : Calls Tryz.prog 55 #[.string s] w (PrPost s w) := by
  have hmf : ∀ (fn : Fn) (first cap : Array Value) (w : World), (Instr.makeFunc fn first cap).run Tryz.prog w = .ok (.func fn first cap) w := fun _ _ _ _ => rfl
  have cN := must_no
  have hd : decide ((s.size : Int) ≤ 300) = false := by simp; omega
  have HR : Hid (M.readS s.data.toList = .inl 0) := by
    show _ = _
    unfold M.readS
    rw [if_pos (by rw [len_data]; exact h)]
  obtain ⟨f1, f2, f3, f4, f5, f6, f7, f8, f9⟩ := read3_is w (.slice none 0 0) (.int .i64 0)
  have hC := caught_is w.heap.size (w.heap.size + 1) 0 w (read3 w (.slice none 0 0) (.int .i64 0)) f3 _ f5 (by omega) f2 (Nat.le_refl _) (by omega)
  have cD := catch_panicking (w.heap.size + 1 + 1) w.heap.size (w.heap.size + 1) 0 (read3 w (.slice none 0 0) (.int .i64 0)) [] f8 f3 f4 _ f5 f6 (by omega)
  go_enter_defers Tryz.func55, Tryz.ntmps55
  go_wp2_with (go_at_call 83; refine (cN _).mono ?_; rintro e w' ⟨rfl, rfl⟩)
  refine leaves_cons (f := 82) (args := #[.pointer (some ⟨w.heap.size + 1 + 1, 0, none⟩), .pointer (some ⟨w.heap.size, 0, none⟩), .pointer (some ⟨w.heap.size + 1, 0, none⟩)]) (by simp) (by simp [go_sem]) ?_
  refine cD.mono ?_
  rintro e u' w'' ⟨rfl, rfl, hw⟩
  have hC2 : Caught w.heap.size (w.heap.size + 1) 0 w (read3 w (.slice none 0 0) (.int .i64 0)) w'' := by rw [hw]; exact hC
  clear hw hC cD
  have z0 := hC2.c0
  have z1 := hC2.c1
  have z2 := hC2.c2
  have z3 := hC2.c3
  have z4 := hC2.c4
  have ze := hC2.ce
  simp [Leaves, settle, results, Tryz.results55, go_sem, z0, z1, z2, z3, z4, ze]
  have hfin := pr_fault hC2 HR.out
  rw [f1] at hfin
  exact hfin
end Go.Proofs.YtgnfknjopafngaaGreatDoor
namespace Go.Proofs
open Go.Shelf
def Tryz.laysM316_ren : Go.Shelf.Ren := ⟨fun | 316 => 124 | n => n, fun | 9 => 9 | 3 => 3 | 4 => 4 | 37 => 131 | 0 => 0 | 127 => 257 | 5 => 5 | n => n, fun | n => n⟩
theorem Tryz.laysM316 : Go.Proofs.LaysM.n316 Tryz.prog Tryz.laysM316_ren := {
  mixed := by kernel_rfl
  f316 := Tryz.func124.trans (congrArg some (by kernel_rfl))
  t0 := Tryz.underlying0
  a0 := Tryz.isAgg0
  z0 := Tryz.sizeOf0
  v0 := Tryz.zeroValue0
  t3 := Tryz.underlying3
  a3 := Tryz.isAgg3
  z3 := Tryz.sizeOf3
  v3 := Tryz.zeroValue3
  t4 := Tryz.underlying4
  a4 := Tryz.isAgg4
  z4 := Tryz.sizeOf4
  v4 := Tryz.zeroValue4
  t9 := Tryz.underlying9
  a9 := Tryz.isAgg9
  z9 := Tryz.sizeOf9
  v9 := Tryz.zeroValue9
  t37 := Tryz.underlying131
  a37 := Tryz.isAgg131
  z37 := Tryz.sizeOf131
  v37 := Tryz.zeroValue131
  t127 := Tryz.underlying257
  a127 := Tryz.isAgg257
  z127 := Tryz.sizeOf257
  v127 := Tryz.zeroValue257
  t5 := Tryz.underlying5
  a5 := Tryz.isAgg5
  z5 := Tryz.sizeOf5
  v5 := Tryz.zeroValue5
  i0 := by kernel_rfl
  i3 := by kernel_rfl
  i4 := by kernel_rfl
  i5 := by kernel_rfl
  i9 := by kernel_rfl
  i37 := by kernel_rfl
  i127 := by kernel_rfl }
open Go.RowKit in
theorem Tryz.stringslite_Clone (s : ByteArray) (w : World) (hlim : s.size ≤ 281474976710656) :
    Calls Tryz.prog 124 #[.string s] w fun e w' => e = .returned (.string s) ∧ Below w.heap.size w w' := Any.stringslite_Clone Tryz.laysM316 s w hlim
end Go.Proofs
namespace Go.Proofs.YtgnfknjopafngaaGreatDoor
open Go.RowKit
set_option maxRecDepth 100000 in
theorem clone_lib (s : ByteArray) (w : World) (h : s.size ≤ 1000000) : Calls Tryz.prog 84 #[.string s] w fun e w' => e = .returned (.string s) ∧ Below w.heap.size w w' := by
  have c := Tryz.stringslite_Clone s w (by omega)
  go_enter Tryz.func84, Tryz.ntmps84
  go_wp2_with (go_at_call 124; refine c.mono ?_; rintro e w' ⟨rfl, hB⟩)
  go_ret
  exact ⟨rfl, hB⟩
end Go.Proofs.YtgnfknjopafngaaGreatDoor
