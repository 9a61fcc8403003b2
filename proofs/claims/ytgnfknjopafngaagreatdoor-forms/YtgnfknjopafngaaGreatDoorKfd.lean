import Derived.Test.YtgnfknjopafngaaGreatDoorKfc
import Derived.Test.YtgnfknjopafngaaGreatDoorKfa
import Derived.Test.YtgnfknjopafngaaGreatDoorKfb
namespace Go.Proofs.YtgnfknjopafngaaGreatDoor
open Go.RowKit
def GivesO {α : Type} (o : Option α) (enc : α → Value) (e : Ending) : Prop := match o with
  | some x => e = .returned (enc x)
  | none => Thrown e
theorem givesO_t {α : Type} {o : Option α} {enc : α → Value} {e : Ending} (x : α) (ho : o = some x) (h : e = .returned (enc x)) : GivesO o enc e := by rw [ho]; exact h
theorem givesO_f {α : Type} {o : Option α} {enc : α → Value} {e : Ending} (ho : o = none) (h : Thrown e) : GivesO o enc e := by rw [ho]; exact h
theorem gives_val {b : Bool} {v : Value} {e : Ending} (hb : b = true) (h : Gives b v e) : e = .returned v := by unfold Gives at h; rw [if_pos hb] at h; exact h
theorem gives_thr {b : Bool} {v : Value} {e : Ending} (hb : b = false) (h : Gives b v e) : Thrown e := by unfold Gives at h; rw [if_neg (by rw [hb]; decide)] at h; exact h
theorem signB_is (s : ByteArray) : signB s = signS s.data.toList := by unfold signB signS; rw [Lib.toList_data]
theorem trimP_len (s p : List UInt8) : (Lib.trimPrefix s p).length ≤ s.length := by unfold Lib.trimPrefix; split <;> simp
theorem trimS_len' (s p : List UInt8) : (Lib.trimSuffix s p).length ≤ s.length := by unfold Lib.trimSuffix; split <;> simp
theorem cut_len (s : List UInt8) (c : UInt8) : (Lib.cut s [c]).1.length ≤ s.length ∧ (Lib.cut s [c]).2.1.length ≤ s.length := by
  rcases cut_cases s c with ⟨_, e, _⟩ | ⟨a, b, e1, _, e, _⟩
  · rw [e]; simp
  · rw [e, e1]; simp; omega
theorem len_data (s : ByteArray) : s.data.toList.length = s.size := by simp
theorem size_of {s : ByteArray} {l : List UInt8} (h : s.data.toList = l) : s.size = l.length := by rw [← h]; simp
set_option maxRecDepth 100000 in
set_option maxHeartbeats 2000000 in
theorem readLimit_walk (s A B C D : ByteArray) (b1 b2 ok sg vr : Bool) (w : World) (hw : Hid (MaxIs w))
    (c1 : ∀ wx, Calls Tryz.prog 168 #[.string s, .string ⟨#[40]⟩] wx fun e w' => e = .returned (.tuple #[.string A, .bool b1]) ∧ w' = wx)
    (c2 : ∀ wx, Calls Tryz.prog 215 #[.string A, .string ⟨#[41]⟩] wx fun e w' => e = .returned (.tuple #[.string B, .bool b2]) ∧ w' = wx)
    (c3 : ∀ wx, MaxIs wx → Calls Tryz.prog 169 #[.string B, .string ⟨#[32]⟩] wx fun e w' => e = .returned (.tuple #[.string C, .string D, .bool ok]) ∧ ∃ n, w' = wx.drewN n)
    (c4 : ∀ wx, Calls Tryz.prog 216 #[.string C] wx fun e w' => e = .returned (.bool sg) ∧ w' = wx)
    (c5 : ∀ wx, Calls Tryz.prog 171 #[.string D] wx fun e w' => Gives vr (.string D) e ∧ w' = wx) :
    Calls Tryz.prog 172 #[.string s] w fun e w' => Gives (b1 && b2 && ok && sg && vr) (.tuple #[.string C, .string D]) e ∧ ∃ n, w' = w.drewN n := by
  have cY := must_ok
  have cN := must_no
  cases b1
  · clear c2 c3 c4 c5 cY
    go_enter Tryz.func172, Tryz.ntmps172
    go_wp2_with (first | (go_at_call 168; refine (c1 _).mono ?_; rintro e w' ⟨rfl, rfl⟩) | (go_at_call 83; refine (cN _).mono ?_; rintro e w' ⟨rfl, rfl⟩))
    exact ⟨rfl, gives_f rfl rfl, 0, rfl⟩
  cases b2
  · clear c3 c4 c5
    go_enter Tryz.func172, Tryz.ntmps172
    go_wp2_with (first | (go_at_call 168; refine (c1 _).mono ?_; rintro e w' ⟨rfl, rfl⟩) | (go_at_call 215; refine (c2 _).mono ?_; rintro e w' ⟨rfl, rfl⟩) | (go_at_call 83; refine (cY _).mono ?_; rintro e w' ⟨rfl, rfl⟩) | (go_at_call 83; refine (cN _).mono ?_; rintro e w' ⟨rfl, rfl⟩))
    exact ⟨rfl, gives_f rfl rfl, 0, rfl⟩
  cases ok
  · clear c4 c5
    go_enter Tryz.func172, Tryz.ntmps172
    go_wp2_with (first | (go_at_call 168; refine (c1 _).mono ?_; rintro e w' ⟨rfl, rfl⟩) | (go_at_call 215; refine (c2 _).mono ?_; rintro e w' ⟨rfl, rfl⟩) | (go_at_call 169; refine (c3 _ hw.out).mono ?_; rintro e w' ⟨rfl, n, rfl⟩) | (go_at_call 83; refine (cY _).mono ?_; rintro e w' ⟨rfl, rfl⟩) | (go_at_call 83; refine (cN _).mono ?_; rintro e w' ⟨rfl, rfl⟩))
    exact ⟨rfl, gives_f rfl rfl, n, rfl⟩
  cases sg
  · clear c5
    go_enter Tryz.func172, Tryz.ntmps172
    go_wp2_with (first | (go_at_call 168; refine (c1 _).mono ?_; rintro e w' ⟨rfl, rfl⟩) | (go_at_call 215; refine (c2 _).mono ?_; rintro e w' ⟨rfl, rfl⟩) | (go_at_call 169; refine (c3 _ hw.out).mono ?_; rintro e w' ⟨rfl, n, rfl⟩) | (go_at_call 216; refine (c4 _).mono ?_; rintro e w' ⟨rfl, rfl⟩) | (go_at_call 83; refine (cY _).mono ?_; rintro e w' ⟨rfl, rfl⟩) | (go_at_call 83; refine (cN _).mono ?_; rintro e w' ⟨rfl, rfl⟩))
    exact ⟨rfl, gives_f rfl rfl, n, rfl⟩
  clear cN
  cases vr
  · replace c5 : ∀ wx, Calls Tryz.prog 171 #[.string D] wx fun e w' => Thrown e ∧ w' = wx := fun wx => (c5 wx).mono fun e w' h => ⟨gives_thr rfl h.1, h.2⟩
    go_enter Tryz.func172, Tryz.ntmps172
    go_wp2_with (first | (go_at_call 168; refine (c1 _).mono ?_; rintro e w' ⟨rfl, rfl⟩) | (go_at_call 215; refine (c2 _).mono ?_; rintro e w' ⟨rfl, rfl⟩) | (go_at_call 169; refine (c3 _ hw.out).mono ?_; rintro e w' ⟨rfl, n, rfl⟩) | (go_at_call 216; refine (c4 _).mono ?_; rintro e w' ⟨rfl, rfl⟩) | (go_at_call 171; refine (c5 _).mono ?_; rintro e w' ⟨rfl, rfl⟩) | (go_at_call 83; refine (cY _).mono ?_; rintro e w' ⟨rfl, rfl⟩))
    exact ⟨rfl, gives_f rfl rfl, n, rfl⟩
  · replace c5 : ∀ wx, Calls Tryz.prog 171 #[.string D] wx fun e w' => e = .returned (.string D) ∧ w' = wx := fun wx => (c5 wx).mono fun e w' h => ⟨gives_val rfl h.1, h.2⟩
    go_enter Tryz.func172, Tryz.ntmps172
    go_wp2_with (first | (go_at_call 168; refine (c1 _).mono ?_; rintro e w' ⟨rfl, rfl⟩) | (go_at_call 215; refine (c2 _).mono ?_; rintro e w' ⟨rfl, rfl⟩) | (go_at_call 169; refine (c3 _ hw.out).mono ?_; rintro e w' ⟨rfl, n, rfl⟩) | (go_at_call 216; refine (c4 _).mono ?_; rintro e w' ⟨rfl, rfl⟩) | (go_at_call 171; refine (c5 _).mono ?_; rintro e w' ⟨rfl, rfl⟩) | (go_at_call 83; refine (cY _).mono ?_; rintro e w' ⟨rfl, rfl⟩))
    go_ret2
    exact ⟨gives_t rfl rfl, n, rfl⟩
theorem readLimit_any (s : ByteArray) (w : World) (hw : MaxIs w) (hs : s.size ≤ 1000000) :
    Calls Tryz.prog 172 #[.string s] w fun e w' => GivesO (limitC s.data.toList) (fun x => .tuple #[.string ⟨x.1.toArray⟩, .string ⟨x.2.toArray⟩]) e ∧ ∃ n, w' = w.drewN n := by
  obtain ⟨A, hA⟩ := bytes_ex (Lib.trimPrefix s.data.toList [40])
  obtain ⟨B, hB⟩ := bytes_ex (Lib.trimSuffix A.data.toList [41])
  obtain ⟨C, hC⟩ := bytes_ex (Lib.cut B.data.toList [32]).1
  obtain ⟨D, hD⟩ := bytes_ex (Lib.cut B.data.toList [32]).2.1
  have sA : A.size ≤ s.size := by have := trimP_len s.data.toList [40]; rw [size_of hA]; simpa using this
  have sB : B.size ≤ s.size := by have := trimS_len' A.data.toList [41]; have h := len_data A; rw [size_of hB]; omega
  have sD : D.size ≤ s.size := by have := (cut_len B.data.toList 32).2; have h := len_data B; rw [size_of hD]; omega
  refine (readLimit_walk s A B C D (Lib.hasPrefix s.data.toList [40]) (Lib.hasSuffix A.data.toList [41]) (Lib.cut B.data.toList [32]).2.2 (signB C) (isVerK D) w hw
    (fun wx => prefix_lib s ⟨#[40]⟩ A _ wx hA.symm rfl) (fun wx => suffix_lib A ⟨#[41]⟩ B _ wx (by omega) hB.symm rfl) (fun wx hx => cut_lib B C D 32 _ wx hx (by omega) (by rw [hC, hD]))
    (fun wx => isSign_any C wx) (fun wx => readVersion_any D wx (by omega))).mono ?_
  rintro e w' ⟨h, hn⟩
  refine ⟨?_, hn⟩
  have HL : limitC s.data.toList = if Lib.hasPrefix s.data.toList [40] = true ∧ Lib.hasSuffix A.data.toList [41] = true ∧ (Lib.cut B.data.toList [32]).2.2 = true ∧ signB C = true ∧ isVerK D = true then some (C.data.toList, D.data.toList) else none := by
    unfold limitC
    rw [← hA, ← hB, ← hC, ← hD, signB_is]
    rfl
  rw [HL]
  unfold Gives at h
  simp only [Bool.and_eq_true, and_assoc] at h
  split at h
  · rename_i hc
    rw [if_pos hc]
    exact h
  · rename_i hc
    rw [if_neg hc]
    exact h
end Go.Proofs.YtgnfknjopafngaaGreatDoor
namespace Go.Proofs.YtgnfknjopafngaaGreatDoor
open Go.RowKit
def chV (c : M.Ch) : Value := .agg #[.string ⟨c.name.toArray⟩, .string ⟨c.sign.toArray⟩, .string ⟨c.ver.toArray⟩]
theorem newB (w : World) (xs : List Value) (t : TypeId) (n : Nat) :
    Below w.heap.size w ((w.alloc (.cells xs.toArray t)).drewN n) ∧ ((w.alloc (.cells xs.toArray t)).drewN n).heap.size = w.heap.size + 1 ∧
      (∀ j u, xs[j]? = some u → ((w.alloc (.cells xs.toArray t)).drewN n).cell? ⟨w.heap.size, j, none⟩ = some u) ∧ ∀ o, ((w.alloc (.cells xs.toArray t)).drewN n).frozen? ⟨w.heap.size, o, none⟩ = false := by
  refine ⟨below_drewN ((Below.refl _ w).alloc (Nat.le_refl _) _) n, by simp, fun j u hj => ?_, fun o => ?_⟩
  · show (w.alloc (.cells xs.toArray t)).cell? ⟨w.heap.size, j, none⟩ = some u
    unfold World.cell?
    rw [(MapKept.heap_alloc w _).1]
    simp [hj]
  · show (w.alloc (.cells xs.toArray t)).frozen? ⟨w.heap.size, o, none⟩ = false
    unfold World.frozen?
    rw [(MapKept.heap_alloc w _).1]
    simp
theorem setC_off (w : World) (b o : Nat) (v : Value) (o' : Nat) (h : o' ≠ o) : (w.setCell ⟨b, o, none⟩ v).cell? ⟨b, o', none⟩ = w.cell? ⟨b, o', none⟩ :=
  World.cell?_setCell_other _ _ _ _ (by intro e; cases e; exact h rfl)
theorem setC_blk (w : World) (b o : Nat) (v : Value) (g o' : Nat) (h : g ≠ b) : (w.setCell ⟨b, o, none⟩ v).cell? ⟨g, o', none⟩ = w.cell? ⟨g, o', none⟩ :=
  World.cell?_setCell_other _ _ _ _ (by intro e; cases e; exact h rfl)
theorem setC_size (w : World) (a : Addr) (v : Value) : (w.setCell a v).heap.size = w.heap.size := by simp [World.setCell]
theorem set3 (X : World) (b : Nat) (a0 a1 a2 u0 u1 u2 : Value) (h0 : X.cell? ⟨b, 0, none⟩ = some u0) (h1 : X.cell? ⟨b, 1, none⟩ = some u1) (h2 : X.cell? ⟨b, 2, none⟩ = some u2) :
    (((X.setCell ⟨b, 0, none⟩ a0).setCell ⟨b, 1, none⟩ a1).setCell ⟨b, 2, none⟩ a2).cell? ⟨b, 0, none⟩ = some a0 ∧
    (((X.setCell ⟨b, 0, none⟩ a0).setCell ⟨b, 1, none⟩ a1).setCell ⟨b, 2, none⟩ a2).cell? ⟨b, 1, none⟩ = some a1 ∧
    (((X.setCell ⟨b, 0, none⟩ a0).setCell ⟨b, 1, none⟩ a1).setCell ⟨b, 2, none⟩ a2).cell? ⟨b, 2, none⟩ = some a2 := by
  refine ⟨?_, ?_, ?_⟩
  · rw [setC_off _ _ _ _ _ (by decide), setC_off _ _ _ _ _ (by decide), World.cell?_setCell_same _ _ _ h0]
  · rw [setC_off _ _ _ _ _ (by decide), World.cell?_setCell_same _ _ _ (by rw [setC_off _ _ _ _ _ (by decide)]; exact h1)]
  · rw [World.cell?_setCell_same _ _ _ (by rw [setC_off _ _ _ _ _ (by decide), setC_off _ _ _ _ _ (by decide)]; exact h2)]
set_option maxRecDepth 100000 in
set_option maxHeartbeats 2000000 in
theorem readChoice_walk (s A B : ByteArray) (ok nm : Bool) (L : Option (List UInt8 × List UInt8)) (w : World) (hw : Hid (MaxIs w))
    (c1 : ∀ wx, MaxIs wx → Calls Tryz.prog 169 #[.string s, .string ⟨#[32]⟩] wx fun e w' => e = .returned (.tuple #[.string A, .string B, .bool ok]) ∧ ∃ n, w' = wx.drewN n)
    (c2 : ∀ wx, Calls Tryz.prog 170 #[.string A] wx fun e w' => Gives nm (.string A) e ∧ w' = wx)
    (c3 : ∀ wx, MaxIs wx → Calls Tryz.prog 172 #[.string B] wx fun e w' => GivesO L (fun x => .tuple #[.string ⟨x.1.toArray⟩, .string ⟨x.2.toArray⟩]) e ∧ ∃ n, w' = wx.drewN n) :
    Calls Tryz.prog 135 #[.string s] w fun e w' => GivesO (if nm = true then (if ok = true then L.map (fun x => (⟨A.data.toList, x.1, x.2⟩ : M.Ch)) else some ⟨A.data.toList, [], []⟩) else none) chV e ∧ Below w.heap.size w w' := by
  have hwA : ∀ o, MaxIs (w.alloc o) := fun o => hw.out.below ((Below.refl _ w).alloc (Nat.le_refl _) _)
  go_enter Tryz.func135, Tryz.ntmps135
  go_wp2_with fail
  refine (c1 _ (hwA _)).mono ?_
  rintro e w' ⟨rfl, n, rfl⟩
  obtain ⟨hB1, hz, hcl, hfz⟩ := newB w [.string ⟨#[]⟩, .string ⟨#[]⟩, .string ⟨#[]⟩] 156 n
  generalize hW : (w.alloc (.cells [Value.string ⟨#[]⟩, .string ⟨#[]⟩, .string ⟨#[]⟩].toArray 156)).drewN n = W1 at hB1 hz hcl hfz
  have q0 := hcl 0 _ rfl
  have q1 := hcl 1 _ rfl
  have q2 := hcl 2 _ rfl
  have HB1 : Hid (Below w.heap.size w W1) := hB1
  have hm1 := hw.out.below hB1
  replace hm1 : Hid (MaxIs W1) := hm1
  have hmA : ∀ o, MaxIs (W1.alloc o) := fun o => hm1.out.below ((Below.refl _ W1).alloc (Nat.le_refl _) _)
  have hBA : ∀ o n, Below w.heap.size w ((W1.alloc o).drewN n) := fun o n => bt HB1.out (below_drewN ((Below.refl _ W1).alloc (Nat.le_refl _) _) n)
  change _ = _ at hW
  simp only [List.toArray] at hW
  cases nm
  · clear c3
    replace c2 : ∀ wx, Calls Tryz.prog 170 #[.string A] wx fun e w' => Thrown e ∧ w' = wx := fun wx => (c2 wx).mono fun e w' h => ⟨gives_thr rfl h.1, h.2⟩
    go_wp2_with ((go_at_call 170; refine (c2 _).mono ?_; rintro e w' ⟨rfl, rfl⟩))
    exact ⟨rfl, givesO_f rfl rfl, HB1.out⟩
  replace c2 : ∀ wx, Calls Tryz.prog 170 #[.string A] wx fun e w' => e = .returned (.string A) ∧ w' = wx := fun wx => (c2 wx).mono fun e w' h => ⟨gives_val rfl h.1, h.2⟩
  cases ok
  · clear c3
    go_wp2_with ((go_at_call 170; refine (c2 _).mono ?_; rintro e w' ⟨rfl, rfl⟩))
    obtain ⟨k0, k1, k2⟩ := set3 w' w.heap.size (.string A) (.string ⟨#[]⟩) (.string ⟨#[]⟩) _ _ _ q0 q1 q2
    have hp : ∀ o j, ((((w'.setCell ⟨w.heap.size, 0, none⟩ (.string A)).setCell ⟨w.heap.size, 1, none⟩ (.string ⟨#[]⟩)).setCell ⟨w.heap.size, 2, none⟩ (.string ⟨#[]⟩)).alloc o).cell? ⟨w.heap.size, j, none⟩ = (((w'.setCell ⟨w.heap.size, 0, none⟩ (.string A)).setCell ⟨w.heap.size, 1, none⟩ (.string ⟨#[]⟩)).setCell ⟨w.heap.size, 2, none⟩ (.string ⟨#[]⟩)).cell? ⟨w.heap.size, j, none⟩ := fun o j => World.cell?_alloc_past _ _ _ (by simp [hz])
    refine bodyPost_ret (v := .agg #[.string A, .string ⟨#[]⟩, .string ⟨#[]⟩]) (by simp [results, Tryz.results135, go_sem, hp, k0, k1, k2]) rfl ⟨givesO_t _ rfl rfl, ?_⟩
    exact (((HB1.out.setCell (Nat.le_refl _) _).setCell (Nat.le_refl _) _).setCell (Nat.le_refl _) _).alloc (by simp; omega) _
  cases L with
  | none =>
    replace c3 : ∀ wx, MaxIs wx → Calls Tryz.prog 172 #[.string B] wx fun e w' => Thrown e ∧ ∃ n, w' = wx.drewN n := fun wx h => (c3 wx h).mono fun e w' h => h
    go_wp2_with (first | (go_at_call 170; refine (c2 _).mono ?_; rintro e w' ⟨rfl, rfl⟩) | (go_at_call 172; refine (c3 _ (hmA _)).mono ?_; rintro e w' ⟨rfl, k, rfl⟩))
    exact ⟨rfl, givesO_f rfl rfl, hBA _ k⟩
  | some x =>
    replace c3 : ∀ wx, MaxIs wx → Calls Tryz.prog 172 #[.string B] wx fun e w' => e = .returned (.tuple #[.string ⟨x.1.toArray⟩, .string ⟨x.2.toArray⟩]) ∧ ∃ n, w' = wx.drewN n := fun wx h => (c3 wx h).mono fun e w' h => h
    go_wp2_with (first | (go_at_call 170; refine (c2 _).mono ?_; rintro e w' ⟨rfl, rfl⟩) | (go_at_call 172; refine (c3 _ (hmA _)).mono ?_; rintro e w' ⟨rfl, k, rfl⟩))
    have hB9 := hBA (.cells #[.string A, .string ⟨#[]⟩, .string ⟨#[]⟩] 156) k
    obtain ⟨hB5, hz5, hcl5, _⟩ := newB w' [.string A, .string ⟨#[]⟩, .string ⟨#[]⟩] 156 k
    have hold : ∀ j, ((w'.alloc (.cells #[.string A, .string ⟨#[]⟩, .string ⟨#[]⟩] 156)).drewN k).cell? ⟨w.heap.size, j, none⟩ = w'.cell? ⟨w.heap.size, j, none⟩ := fun j => hB5.cell (p := ⟨w.heap.size, j, none⟩) (by simp [hz])
    generalize (w'.alloc (.cells #[.string A, .string ⟨#[]⟩, .string ⟨#[]⟩] 156)).drewN k = W5 at hB9 hold ⊢
    have hne : w.heap.size ≠ w.heap.size + 1 := by omega
    obtain ⟨k0, k1, k2⟩ := set3 ((W5.setCell ⟨w.heap.size + 1, 1, none⟩ (.string ⟨x.1.toArray⟩)).setCell ⟨w.heap.size + 1, 2, none⟩ (.string ⟨x.2.toArray⟩)) w.heap.size (.string A) (.string ⟨x.1.toArray⟩) (.string ⟨x.2.toArray⟩) _ _ _
      (by rw [setC_blk _ _ _ _ _ _ hne, setC_blk _ _ _ _ _ _ hne, hold]; exact q0) (by rw [setC_blk _ _ _ _ _ _ hne, setC_blk _ _ _ _ _ _ hne, hold]; exact q1) (by rw [setC_blk _ _ _ _ _ _ hne, setC_blk _ _ _ _ _ _ hne, hold]; exact q2)
    refine bodyPost_ret (v := .agg #[.string A, .string ⟨x.1.toArray⟩, .string ⟨x.2.toArray⟩]) (by simp [results, Tryz.results135, go_sem, k0, k1, k2]) rfl ⟨givesO_t _ rfl rfl, ?_⟩
    exact ((((hB9.setCell (show w.heap.size ≤ w.heap.size + 1 by omega) _).setCell (show w.heap.size ≤ w.heap.size + 1 by omega) _).setCell (Nat.le_refl _) _).setCell (Nat.le_refl _) _).setCell (Nat.le_refl _) _
theorem readChoice_any (s : ByteArray) (w : World) (hw : MaxIs w) (hs : s.size ≤ 1000000) :
    Calls Tryz.prog 135 #[.string s] w fun e w' => GivesO (choiceC s.data.toList) chV e ∧ Below w.heap.size w w' := by
  obtain ⟨A, hA⟩ := bytes_ex (Lib.cut s.data.toList [32]).1
  obtain ⟨B, hB⟩ := bytes_ex (Lib.cut s.data.toList [32]).2.1
  have h := len_data s
  have sA : A.size ≤ s.size := by have := (cut_len s.data.toList 32).1; rw [size_of hA]; omega
  have sB : B.size ≤ s.size := by have := (cut_len s.data.toList 32).2; rw [size_of hB]; omega
  refine (readChoice_walk s A B (Lib.cut s.data.toList [32]).2.2 (isNameK A) (limitC B.data.toList) w hw
    (fun wx hx => cut_lib s A B 32 _ wx hx (by omega) (by rw [hA, hB])) (fun wx => readName_any A wx (by omega)) (fun wx hx => readLimit_any B wx hx (by omega))).mono ?_
  rintro e w' ⟨h, hn⟩
  refine ⟨?_, hn⟩
  have HL : choiceC s.data.toList = (if isNameK A = true then (if (Lib.cut s.data.toList [32]).2.2 = true then (limitC B.data.toList).map (fun x => (⟨A.data.toList, x.1, x.2⟩ : M.Ch)) else some ⟨A.data.toList, [], []⟩) else none) := by
    unfold choiceC
    rw [← hA, ← hB]
    show (if isNameK A = true then _ else _) = _
    cases limitC B.data.toList <;> rfl
  rw [HL]
  exact h
end Go.Proofs.YtgnfknjopafngaaGreatDoor
namespace Go.Proofs.YtgnfknjopafngaaGreatDoor
open Go.RowKit
set_option maxRecDepth 100000 in
set_option maxHeartbeats 2000000 in
theorem readTitle_walk (s A B : ByteArray) (ok nm vr : Bool) (w : World) (hw : Hid (MaxIs w))
    (c1 : ∀ wx, MaxIs wx → Calls Tryz.prog 169 #[.string s, .string ⟨#[32]⟩] wx fun e w' => e = .returned (.tuple #[.string A, .string B, .bool ok]) ∧ ∃ n, w' = wx.drewN n)
    (c2 : ∀ wx, Calls Tryz.prog 170 #[.string A] wx fun e w' => Gives nm (.string A) e ∧ w' = wx)
    (c3 : ∀ wx, Calls Tryz.prog 171 #[.string B] wx fun e w' => Gives vr (.string B) e ∧ w' = wx) :
    Calls Tryz.prog 129 #[.string s] w fun e w' => Gives (ok && nm && vr) (.tuple #[.string A, .string B]) e ∧ ∃ n, w' = w.drewN n := by
  have cY := must_ok
  have cN := must_no
  cases ok
  · clear c2 c3 cY
    go_enter Tryz.func129, Tryz.ntmps129
    go_wp2_with (first | (go_at_call 169; refine (c1 _ hw.out).mono ?_; rintro e w' ⟨rfl, n, rfl⟩) | (go_at_call 83; refine (cN _).mono ?_; rintro e w' ⟨rfl, rfl⟩))
    exact ⟨rfl, gives_f rfl rfl, n, rfl⟩
  clear cN
  cases nm
  · clear c3
    replace c2 : ∀ wx, Calls Tryz.prog 170 #[.string A] wx fun e w' => Thrown e ∧ w' = wx := fun wx => (c2 wx).mono fun e w' h => ⟨gives_thr rfl h.1, h.2⟩
    go_enter Tryz.func129, Tryz.ntmps129
    go_wp2_with (first | (go_at_call 169; refine (c1 _ hw.out).mono ?_; rintro e w' ⟨rfl, n, rfl⟩) | (go_at_call 83; refine (cY _).mono ?_; rintro e w' ⟨rfl, rfl⟩) | (go_at_call 170; refine (c2 _).mono ?_; rintro e w' ⟨rfl, rfl⟩))
    exact ⟨rfl, gives_f rfl rfl, n, rfl⟩
  replace c2 : ∀ wx, Calls Tryz.prog 170 #[.string A] wx fun e w' => e = .returned (.string A) ∧ w' = wx := fun wx => (c2 wx).mono fun e w' h => ⟨gives_val rfl h.1, h.2⟩
  cases vr
  · replace c3 : ∀ wx, Calls Tryz.prog 171 #[.string B] wx fun e w' => Thrown e ∧ w' = wx := fun wx => (c3 wx).mono fun e w' h => ⟨gives_thr rfl h.1, h.2⟩
    go_enter Tryz.func129, Tryz.ntmps129
    go_wp2_with (first | (go_at_call 169; refine (c1 _ hw.out).mono ?_; rintro e w' ⟨rfl, n, rfl⟩) | (go_at_call 83; refine (cY _).mono ?_; rintro e w' ⟨rfl, rfl⟩) | (go_at_call 170; refine (c2 _).mono ?_; rintro e w' ⟨rfl, rfl⟩) | (go_at_call 171; refine (c3 _).mono ?_; rintro e w' ⟨rfl, rfl⟩))
    exact ⟨rfl, gives_f rfl rfl, n, rfl⟩
  · replace c3 : ∀ wx, Calls Tryz.prog 171 #[.string B] wx fun e w' => e = .returned (.string B) ∧ w' = wx := fun wx => (c3 wx).mono fun e w' h => ⟨gives_val rfl h.1, h.2⟩
    go_enter Tryz.func129, Tryz.ntmps129
    go_wp2_with (first | (go_at_call 169; refine (c1 _ hw.out).mono ?_; rintro e w' ⟨rfl, n, rfl⟩) | (go_at_call 83; refine (cY _).mono ?_; rintro e w' ⟨rfl, rfl⟩) | (go_at_call 170; refine (c2 _).mono ?_; rintro e w' ⟨rfl, rfl⟩) | (go_at_call 171; refine (c3 _).mono ?_; rintro e w' ⟨rfl, rfl⟩))
    go_ret2
    exact ⟨gives_t rfl rfl, n, rfl⟩
theorem readTitle_any (s : ByteArray) (w : World) (hw : MaxIs w) (hs : s.size ≤ 1000000) :
    Calls Tryz.prog 129 #[.string s] w fun e w' => GivesO (titleC s.data.toList) (fun x => .tuple #[.string ⟨x.1.toArray⟩, .string ⟨x.2.toArray⟩]) e ∧ ∃ n, w' = w.drewN n := by
  obtain ⟨A, hA⟩ := bytes_ex (Lib.cut s.data.toList [32]).1
  obtain ⟨B, hB⟩ := bytes_ex (Lib.cut s.data.toList [32]).2.1
  have h := len_data s
  have sA : A.size ≤ s.size := by have := (cut_len s.data.toList 32).1; rw [size_of hA]; omega
  have sB : B.size ≤ s.size := by have := (cut_len s.data.toList 32).2; rw [size_of hB]; omega
  refine (readTitle_walk s A B (Lib.cut s.data.toList [32]).2.2 (isNameK A) (isVerK B) w hw
    (fun wx hx => cut_lib s A B 32 _ wx hx (by omega) (by rw [hA, hB])) (fun wx => readName_any A wx (by omega)) (fun wx => readVersion_any B wx (by omega))).mono ?_
  rintro e w' ⟨h, hn⟩
  refine ⟨?_, hn⟩
  have HL : titleC s.data.toList = if (Lib.cut s.data.toList [32]).2.2 = true ∧ isNameK A = true ∧ isVerK B = true then some (A.data.toList, B.data.toList) else none := by
    unfold titleC
    rw [← hA, ← hB]
    rfl
  rw [HL]
  unfold Gives at h
  simp only [Bool.and_eq_true, and_assoc] at h
  split at h
  · rename_i hc
    rw [if_pos hc]
    exact h
  · rename_i hc
    rw [if_neg hc]
    exact h
end Go.Proofs.YtgnfknjopafngaaGreatDoor
namespace Go.Proofs.YtgnfknjopafngaaGreatDoor
open Go.RowKit
theorem at_eq (s t : ByteArray) (k : Nat) : ((t.extract k (k + s.size)).toList == s.toList) = M.at' s.data.toList t.data.toList k := by
  unfold M.at'
  rw [Lib.toList_data, Lib.toList_data, Lib.extract_data]
  simp
set_option maxHeartbeats 1000000 in
theorem in_any (s t : ByteArray) (w : World) (hs : s.size + t.size ≤ 4611686018427387904) :
    Calls Tryz.prog 102 #[.string s, .string t] w fun e w' => e = .returned (.bool (M.inn s.data.toList t.data.toList)) ∧ w' = w := by
  go_enter Tryz.func102, Tryz.ntmps102
  go_wp2
  go_loop [5] (fun i => ∃ k : Nat, k ≤ t.size + 1 ∧ i = .int .i64 k ∧ ∀ j, j < k → M.at' s.data.toList t.data.toList j = false) (fun i => t.size + 1 - (intOf i).toNat)
  case atStart => exact ⟨0, Nat.zero_le _, rfl, fun j h => by omega⟩
  case round =>
    obtain ⟨k, hk1, rfl, ha⟩ := hrel
    have HA : Hid (∀ j, j < k → M.at' s.data.toList t.data.toList j = false) := ha
    clear ha
    by_cases hlt : k + s.size ≤ t.size
    · by_cases hm : ((t.extract k (k + s.size)).toList == s.toList) = true
      · have HM : Hid (((t.extract k (k + s.size)).toList == s.toList) = true) := hm
        go_wp2
        go_ret
        exact ⟨ret_bool (M.inn_yes (k := k) (by simpa using hlt) (by rw [← at_eq]; exact HM.out)).symm, rfl⟩
      · have hm' : ((t.extract k (k + s.size)).toList == s.toList) = false := by simpa using hm
        clear hm
        have HM : Hid (((t.extract k (k + s.size)).toList == s.toList) = false) := hm'
        go_wp2
        go_round
        case rel =>
          refine ⟨k + 1, by omega, by go_num, fun j hj => ?_⟩
          by_cases hjk : j < k
          · exact HA.out j hjk
          · obtain rfl : j = k := by omega
            rw [← at_eq]; exact HM.out
        case measure => simp [intOf]; omega
    · go_wp2
      go_ret
      exact ⟨ret_bool (M.inn_no HA.out (by simp; omega)).symm, rfl⟩
end Go.Proofs.YtgnfknjopafngaaGreatDoor
namespace Go.Proofs.YtgnfknjopafngaaGreatDoor
open Go.RowKit
theorem one_byte (s : ByteArray) (k : Nat) (h : k < s.size) : (s.extract k (k + 1)).data.toList = [s[k]] := by
  have h' : k < s.data.toList.length := by simpa using h
  rw [Lib.extract_data, List.drop_eq_getElem_cons h']
  simp
  rfl
def madeB (p : Int → Bool) (least most : Nat) (s : ByteArray) : Bool := M.made p least most s.data.toList
theorem all_pre {p : Int → Bool} {l : List UInt8} (h : ∀ j (hj : j < l.length), p (l[j]).toNat = true) : l.all (fun b => p b.toNat) = true := by
  rw [List.all_eq_true]
  intro b hb
  obtain ⟨j, hj, rfl⟩ := List.getElem_of_mem hb
  exact h j hj
theorem all_not {p : Int → Bool} {l : List UInt8} {k : Nat} (hk : k < l.length) (h : p (l[k]).toNat = false) : l.all (fun b => p b.toNat) = false := by
  rw [List.all_eq_false]
  exact ⟨l[k], List.getElem_mem hk, by rw [h]; decide⟩
set_option maxHeartbeats 1000000 in
theorem made_any (t : ByteArray) (p : Int → Bool) (hset : Hid (∀ b : UInt8, t.data.toList.contains b = p b.toNat)) (least most : Int) (hm : 0 ≤ most) (hm2 : most ≤ 100) (ht : t.size ≤ 1000) (s : ByteArray) (w : World) (hs : s.size ≤ 1000000) :
    Calls Tryz.prog 101 #[.string s, .string t, .int .i64 least, .int .i64 most] w fun e w' => e = .returned (.bool (madeB p least.toNat most.toNat s)) ∧ w' = w := by
  go_enter Tryz.func101, Tryz.ntmps101
  go_wp2
  go_loop [9, 10] (fun i _ => ∃ k : Nat, k ≤ s.size ∧ i = .int .i64 k ∧ Hid (∀ j (h : j < s.data.toList.length), j < k → p (s.data.toList[j]).toNat = true)) (fun i _ => s.size - (intOf i).toNat)
  case atStart => exact ⟨0, Nat.zero_le _, rfl, fun j _ h => by omega⟩
  case round =>
    obtain ⟨k, hk1, rfl, HA⟩ := hrel
    by_cases hlt : k < s.size
    · have hin : M.inn (s.extract k (k + 1)).data.toList t.data.toList = p s[k].toNat := by rw [one_byte s k hlt, M.inn_one]; exact hset.out _
      have cI : ∀ wx, Calls Tryz.prog 102 #[.string (s.extract k (k + 1)), .string t] wx fun e w' => e = .returned (.bool (p s[k].toNat)) ∧ w' = wx := fun wx => by
        rw [← hin]; exact in_any _ t wx (by have := ext_size s k (k + 1); omega)
      clear hin
      by_cases hp : p s[k].toNat = true
      · go_wp2_with (go_at_call 102; refine (cI _).mono ?_; rintro e w' ⟨rfl, rfl⟩)
        go_round
        case rel =>
          refine ⟨k + 1, by omega, by go_num, fun j hj hjk => ?_⟩
          by_cases hjk' : j < k
          · exact HA.out j hj hjk'
          · obtain rfl : j = k := by omega
            exact hp
        case measure => simp [intOf]; omega
      · have hp' : p s[k].toNat = false := by simpa using hp
        have HP : Hid (p s[k].toNat = false) := hp'
        clear hp
        go_wp2_with (go_at_call 102; refine (cI _).mono ?_; rintro e w' ⟨rfl, rfl⟩)
        go_ret
        exact ⟨ret_bool (by unfold madeB M.made; rw [all_not (by simpa using hlt) HP.out]; rfl), rfl⟩
    · have HF : Hid (s.data.toList.all (fun b => p b.toNat) = true) := all_pre fun j hj => HA.out j hj (by simp at hj; omega)
      by_cases h1 : least ≤ s.size
      · by_cases h2 : (s.size : Int) ≤ most
        · go_wp2
          go_ret
          exact ⟨ret_bool (by unfold madeB M.made; rw [HF.out]; simp; omega), rfl⟩
        · go_wp2
          go_ret
          exact ⟨ret_bool (by unfold madeB M.made; rw [HF.out]; simp; omega), rfl⟩
      · go_wp2
        go_ret
        exact ⟨ret_bool (by unfold madeB M.made; rw [HF.out]; simp; omega), rfl⟩
def smallT : ByteArray := ⟨#[97, 98, 99, 100, 101, 102, 103, 104, 105, 106, 107, 108, 109, 110, 111, 112, 113, 114, 115, 116, 117, 118, 119, 120, 121, 122]⟩
def digitT : ByteArray := ⟨#[48, 49, 50, 51, 52, 53, 54, 55, 56, 57]⟩
def nameT : ByteArray := ⟨#[97, 98, 99, 100, 101, 102, 103, 104, 105, 106, 107, 108, 109, 110, 111, 112, 113, 114, 115, 116, 117, 118, 119, 120, 121, 122, 48, 49, 50, 51, 52, 53, 54, 55, 56, 57, 45]⟩
def verT : ByteArray := ⟨#[97, 98, 99, 100, 101, 102, 103, 104, 105, 106, 107, 108, 109, 110, 111, 112, 113, 114, 115, 116, 117, 118, 119, 120, 121, 122, 65, 66, 67, 68, 69, 70, 71, 72, 73, 74, 75, 76, 77, 78, 79, 80, 81, 82, 83, 84, 85, 86, 87, 88, 89, 90, 48, 49, 50, 51, 52, 53, 54, 55, 56, 57, 46, 43, 45, 126]⟩
def partT : ByteArray := ⟨#[97, 98, 99, 100, 101, 102, 103, 104, 105, 106, 107, 108, 109, 110, 111, 112, 113, 114, 115, 116, 117, 118, 119, 120, 121, 122, 48, 49, 50, 51, 52, 53, 54, 55, 56, 57, 46, 95]⟩
theorem set_all (t : List UInt8) (p : Int → Bool) (h : ∀ n : Nat, n < 256 → t.contains (UInt8.ofNat n) = p n) (b : UInt8) : t.contains b = p b.toNat := by
  have := h b.toNat b.toNat_lt
  rwa [UInt8.ofNat_toNat] at this
theorem small_set : Hid (∀ b : UInt8, smallT.data.toList.contains b = M.isSm b.toNat) := set_all _ _ (by decide +kernel)
theorem digit_set : Hid (∀ b : UInt8, digitT.data.toList.contains b = M.isD b.toNat) := set_all _ _ (by decide +kernel)
theorem name_set : Hid (∀ b : UInt8, nameT.data.toList.contains b = M.nameP b.toNat) := set_all _ _ (by decide +kernel)
theorem ver_set : Hid (∀ b : UInt8, verT.data.toList.contains b = M.verP b.toNat) := set_all _ _ (by decide +kernel)
theorem part_set : Hid (∀ b : UInt8, partT.data.toList.contains b = M.partP b.toNat) := set_all _ _ (by decide +kernel)
def isNameB (s : ByteArray) : Bool := M.isNameS s.data.toList
def isVerB (s : ByteArray) : Bool := M.isVerS s.data.toList
theorem headP_of {p : Int → Bool} {l : List UInt8} (h : 0 < l.length) : p l[0].toNat = M.headP p l := by
  cases l with
  | nil => simp at h
  | cons b r => simp [M.headP]
theorem head_in (s t : ByteArray) (p : Int → Bool) (hset : ∀ b : UInt8, t.data.toList.contains b = p b.toNat) (h : 0 < s.size) : M.inn (s.extract 0 1).data.toList t.data.toList = M.headP p s.data.toList := by
  rw [one_byte s 0 h, M.inn_one, hset]
  have h' : 0 < s.data.toList.length := by simpa using h
  exact headP_of h'
set_option maxRecDepth 100000 in
set_option maxHeartbeats 1000000 in
theorem isName_any (s : ByteArray) (w : World) (hs : s.size ≤ 1000000) :
    Calls Tryz.prog 59 #[.string s] w fun e w' => e = .returned (.bool (isNameB s)) ∧ w' = w := by
  have cM : ∀ wx, Calls Tryz.prog 101 #[.string s, .string nameT, .int .i64 1, .int .i64 12] wx fun e w' => e = .returned (.bool (madeB M.nameP 1 12 s)) ∧ w' = wx := fun wx =>
    made_any nameT M.nameP name_set 1 12 (by decide) (by decide) (by decide) s wx hs
  by_cases h1 : madeB M.nameP 1 12 s = true
  · have h0 : 0 < s.size := by unfold madeB M.made at h1; simp at h1; omega
    have cI : ∀ wx, Calls Tryz.prog 102 #[.string (s.extract 0 1), .string smallT] wx fun e w' => e = .returned (.bool (M.headP M.isSm s.data.toList)) ∧ w' = wx := fun wx => by
      rw [← head_in s smallT M.isSm small_set.out h0]; exact in_any _ _ wx (by have := ext_size s 0 1; have : smallT.size = 26 := rfl; omega)
    go_enter Tryz.func59, Tryz.ntmps59
    go_wp2_with (first | (go_at_call 101; refine (cM _).mono ?_; rintro e w' ⟨rfl, rfl⟩) | (go_at_call 102; refine (cI _).mono ?_; rintro e w' ⟨rfl, rfl⟩))
    go_ret
    exact ⟨ret_bool (by unfold isNameB M.isNameS; unfold madeB at h1; rw [h1]; rfl), rfl⟩
  · have h1' : madeB M.nameP 1 12 s = false := by simpa using h1
    clear h1
    go_enter Tryz.func59, Tryz.ntmps59
    go_wp2_with (first | (go_at_call 101; refine (cM _).mono ?_; rintro e w' ⟨rfl, rfl⟩))
    go_ret
    exact ⟨ret_bool (by unfold isNameB M.isNameS; unfold madeB at h1'; rw [h1']; rfl), rfl⟩
set_option maxRecDepth 100000 in
set_option maxHeartbeats 1000000 in
theorem isVersion_any (s : ByteArray) (w : World) (hs : s.size ≤ 1000000) :
    Calls Tryz.prog 60 #[.string s] w fun e w' => e = .returned (.bool (isVerB s)) ∧ w' = w := by
  have cM : ∀ wx, Calls Tryz.prog 101 #[.string s, .string verT, .int .i64 1, .int .i64 16] wx fun e w' => e = .returned (.bool (madeB M.verP 1 16 s)) ∧ w' = wx := fun wx =>
    made_any verT M.verP ver_set 1 16 (by decide) (by decide) (by decide) s wx hs
  by_cases h1 : madeB M.verP 1 16 s = true
  · have h0 : 0 < s.size := by unfold madeB M.made at h1; simp at h1; omega
    have cI : ∀ wx, Calls Tryz.prog 102 #[.string (s.extract 0 1), .string digitT] wx fun e w' => e = .returned (.bool (M.headP M.isD s.data.toList)) ∧ w' = wx := fun wx => by
      rw [← head_in s digitT M.isD digit_set.out h0]; exact in_any _ _ wx (by have := ext_size s 0 1; have : digitT.size = 10 := rfl; omega)
    go_enter Tryz.func60, Tryz.ntmps60
    go_wp2_with (first | (go_at_call 101; refine (cM _).mono ?_; rintro e w' ⟨rfl, rfl⟩) | (go_at_call 102; refine (cI _).mono ?_; rintro e w' ⟨rfl, rfl⟩))
    go_ret
    exact ⟨ret_bool (by unfold isVerB M.isVerS; unfold madeB at h1; rw [h1]; rfl), rfl⟩
  · have h1' : madeB M.verP 1 16 s = false := by simpa using h1
    clear h1
    go_enter Tryz.func60, Tryz.ntmps60
    go_wp2_with (first | (go_at_call 101; refine (cM _).mono ?_; rintro e w' ⟨rfl, rfl⟩))
    go_ret
    exact ⟨ret_bool (by unfold isVerB M.isVerS; unfold madeB at h1'; rw [h1']; rfl), rfl⟩
def beginsB (s t : ByteArray) : Bool := M.begins s.data.toList t.data.toList
set_option maxHeartbeats 1000000 in
theorem begins_any (s t : ByteArray) (w : World) :
    Calls Tryz.prog 61 #[.string s, .string t] w fun e w' => e = .returned (.bool (beginsB s t)) ∧ w' = w := by
  have e : beginsB s t = (decide (t.size ≤ s.size) && ((s.extract 0 t.size).toList == t.toList)) := by
    unfold beginsB M.begins
    rw [Lib.toList_data, Lib.toList_data, ext_upto]
    simp
  by_cases h1 : t.size ≤ s.size
  · have HE : Hid (beginsB s t = ((s.extract 0 t.size).toList == t.toList)) := by show _ = _; rw [e]; simp [h1]
    clear e
    go_enter Tryz.func61, Tryz.ntmps61
    go_wp2
    go_ret
    exact ⟨ret_bool HE.out.symm, rfl⟩
  · have HE : Hid (beginsB s t = false) := by show _ = _; rw [e]; simp [h1]
    clear e
    go_enter Tryz.func61, Tryz.ntmps61
    go_wp2
    go_ret
    exact ⟨ret_bool HE.out.symm, rfl⟩
def overB (a b : ByteArray) : Bool := M.over a.data.toList b.data.toList
set_option maxHeartbeats 1000000 in
theorem over_any (a b : ByteArray) (w : World) (ha : a.size ≤ 1000000) :
    Calls Tryz.prog 64 #[.string a, .string b] w fun e w' => e = .returned (.bool (overB a b)) ∧ w' = w := by
  go_enter Tryz.func64, Tryz.ntmps64
  go_wp2_with (go_at_call 61; refine (begins_any _ _ _).mono ?_; rintro e w' ⟨rfl, rfl⟩)
  go_ret
  refine ⟨ret_bool ?_, rfl⟩
  unfold beginsB overB M.over
  rw [ByteArray.data_append]; simp
end Go.Proofs.YtgnfknjopafngaaGreatDoor
