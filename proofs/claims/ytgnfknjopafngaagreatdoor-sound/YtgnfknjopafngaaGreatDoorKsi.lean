import Derived.Test.YtgnfknjopafngaaGreatDoorKsh
import Derived.Test.YtgnfknjopafngaaGreatDoorKsf
import Derived.Test.YtgnfknjopafngaaGreatDoorKsg
import Derived.Test.YtgnfknjopafngaaGreatDoorKsa
import Derived.Test.YtgnfknjopafngaaGreatDoorKsb
import Derived.Deep.RegionWith
import Derived.ArgAppend
import Derived.Deep.RegionLaw
namespace Go.Proofs.YtgnfknjopafngaaGreatDoor
open Go.RowKit
def GivesO {α : Type} (o : Option α) (enc : α → Value) (e : Ending) : Prop := match o with
  | some x => e = .returned (enc x)
  | none => Thrown e
theorem givesO_t {α : Type} {o : Option α} {enc : α → Value} {e : Ending} (x : α) (ho : o = some x) (h : e = .returned (enc x)) : GivesO o enc e := by rw [ho]; exact h
theorem givesO_f {α : Type} {o : Option α} {enc : α → Value} {e : Ending} (ho : o = none) (h : Thrown e) : GivesO o enc e := by rw [ho]; exact h
theorem gives_val {b : Bool} {v : Value} {e : Ending} (hb : b = true) (h : Gives b v e) : e = .returned v := by unfold Gives at h; rw [if_pos hb] at h; exact h
theorem gives_thr {b : Bool} {v : Value} {e : Ending} (hb : b = false) (h : Gives b v e) : Thrown e := by unfold Gives at h; rw [if_neg (by rw [hb]; decide)] at h; exact h
theorem signB_is (s : ByteArray) : signB s = signS s.data.toList := by unfold signB signS; rw [Lib.toList_data]
theorem trimP_len (s p : List UInt8) : (Lib.trimPrefix s p).length ≤ s.length := by unfold Lib.trimPrefix; split <;> simp
theorem trimS_len' (s p : List UInt8) : (Lib.trimSuffix s p).length ≤ s.length := by unfold Lib.trimSuffix; split <;> simp
theorem cut_len (s : List UInt8) (c : UInt8) : (Lib.cut s [c]).1.length ≤ s.length ∧ (Lib.cut s [c]).2.1.length ≤ s.length := by
  rcases cut_cases s c with ⟨_, e, _⟩ | ⟨a, b, e1, _, e, _⟩
  · rw [e]; simp
  · rw [e, e1]; simp; omega
theorem len_data (s : ByteArray) : s.data.toList.length = s.size := by simp
theorem size_of {s : ByteArray} {l : List UInt8} (h : s.data.toList = l) : s.size = l.length := by rw [← h]; simp
set_option maxRecDepth 100000 in
set_option maxHeartbeats 2000000 in
theorem readLimit_walk (s A B C D : ByteArray) (b1 b2 ok sg vr : Bool) (w : World) (hw : Hid (MaxIs w))
    (c1 : ∀ wx, Calls Tryz.prog 168 #[.string s, .string ⟨#[40]⟩] wx fun e w' => e = .returned (.tuple #[.string A, .bool b1]) ∧ w' = wx)
    (c2 : ∀ wx, Calls Tryz.prog 215 #[.string A, .string ⟨#[41]⟩] wx fun e w' => e = .returned (.tuple #[.string B, .bool b2]) ∧ w' = wx)
    (c3 : ∀ wx, MaxIs wx → Calls Tryz.prog 169 #[.string B, .string ⟨#[32]⟩] wx fun e w' => e = .returned (.tuple #[.string C, .string D, .bool ok]) ∧ ∃ n, w' = wx.drewN n)
    (c4 : ∀ wx, Calls Tryz.prog 216 #[.string C] wx fun e w' => e = .returned (.bool sg) ∧ w' = wx)
    (c5 : ∀ wx, Calls Tryz.prog 171 #[.string D] wx fun e w' => Gives vr (.string D) e ∧ w' = wx) :
    Calls Tryz.prog 172 #[.string s] w fun e w' => Gives (b1 && b2 && ok && sg && vr) (.tuple #[.string C, .string D]) e ∧ ∃ n, w' = w.drewN n := by
  have cY := must_ok
  have cN := must_no
  cases b1
  · clear c2 c3 c4 c5 cY
    go_enter Tryz.func172, Tryz.ntmps172
    go_wp2_with (first | (go_at_call 168; refine (c1 _).mono ?_; rintro e w' ⟨rfl, rfl⟩) | (go_at_call 83; refine (cN _).mono ?_; rintro e w' ⟨rfl, rfl⟩))
    exact ⟨rfl, gives_f rfl rfl, 0, rfl⟩
  cases b2
  · clear c3 c4 c5
    go_enter Tryz.func172, Tryz.ntmps172
    go_wp2_with (first | (go_at_call 168; refine (c1 _).mono ?_; rintro e w' ⟨rfl, rfl⟩) | (go_at_call 215; refine (c2 _).mono ?_; rintro e w' ⟨rfl, rfl⟩) | (go_at_call 83; refine (cY _).mono ?_; rintro e w' ⟨rfl, rfl⟩) | (go_at_call 83; refine (cN _).mono ?_; rintro e w' ⟨rfl, rfl⟩))
    exact ⟨rfl, gives_f rfl rfl, 0, rfl⟩
  cases ok
  · clear c4 c5
    go_enter Tryz.func172, Tryz.ntmps172
    go_wp2_with (first | (go_at_call 168; refine (c1 _).mono ?_; rintro e w' ⟨rfl, rfl⟩) | (go_at_call 215; refine (c2 _).mono ?_; rintro e w' ⟨rfl, rfl⟩) | (go_at_call 169; refine (c3 _ hw.out).mono ?_; rintro e w' ⟨rfl, n, rfl⟩) | (go_at_call 83; refine (cY _).mono ?_; rintro e w' ⟨rfl, rfl⟩) | (go_at_call 83; refine (cN _).mono ?_; rintro e w' ⟨rfl, rfl⟩))
    exact ⟨rfl, gives_f rfl rfl, n, rfl⟩
  cases sg
  · clear c5
    go_enter Tryz.func172, Tryz.ntmps172
    go_wp2_with (first | (go_at_call 168; refine (c1 _).mono ?_; rintro e w' ⟨rfl, rfl⟩) | (go_at_call 215; refine (c2 _).mono ?_; rintro e w' ⟨rfl, rfl⟩) | (go_at_call 169; refine (c3 _ hw.out).mono ?_; rintro e w' ⟨rfl, n, rfl⟩) | (go_at_call 216; refine (c4 _).mono ?_; rintro e w' ⟨rfl, rfl⟩) | (go_at_call 83; refine (cY _).mono ?_; rintro e w' ⟨rfl, rfl⟩) | (go_at_call 83; refine (cN _).mono ?_; rintro e w' ⟨rfl, rfl⟩))
    exact ⟨rfl, gives_f rfl rfl, n, rfl⟩
  clear cN
  cases vr
  · replace c5 : ∀ wx, Calls Tryz.prog 171 #[.string D] wx fun e w' => Thrown e ∧ w' = wx := fun wx => (c5 wx).mono fun e w' h => ⟨gives_thr rfl h.1, h.2⟩
    go_enter Tryz.func172, Tryz.ntmps172
    go_wp2_with (first | (go_at_call 168; refine (c1 _).mono ?_; rintro e w' ⟨rfl, rfl⟩) | (go_at_call 215; refine (c2 _).mono ?_; rintro e w' ⟨rfl, rfl⟩) | (go_at_call 169; refine (c3 _ hw.out).mono ?_; rintro e w' ⟨rfl, n, rfl⟩) | (go_at_call 216; refine (c4 _).mono ?_; rintro e w' ⟨rfl, rfl⟩) | (go_at_call 171; refine (c5 _).mono ?_; rintro e w' ⟨rfl, rfl⟩) | (go_at_call 83; refine (cY _).mono ?_; rintro e w' ⟨rfl, rfl⟩))
    exact ⟨rfl, gives_f rfl rfl, n, rfl⟩
  · replace c5 : ∀ wx, Calls Tryz.prog 171 #[.string D] wx fun e w' => e = .returned (.string D) ∧ w' = wx := fun wx => (c5 wx).mono fun e w' h => ⟨gives_val rfl h.1, h.2⟩
    go_enter Tryz.func172, Tryz.ntmps172
    go_wp2_with (first | (go_at_call 168; refine (c1 _).mono ?_; rintro e w' ⟨rfl, rfl⟩) | (go_at_call 215; refine (c2 _).mono ?_; rintro e w' ⟨rfl, rfl⟩) | (go_at_call 169; refine (c3 _ hw.out).mono ?_; rintro e w' ⟨rfl, n, rfl⟩) | (go_at_call 216; refine (c4 _).mono ?_; rintro e w' ⟨rfl, rfl⟩) | (go_at_call 171; refine (c5 _).mono ?_; rintro e w' ⟨rfl, rfl⟩) | (go_at_call 83; refine (cY _).mono ?_; rintro e w' ⟨rfl, rfl⟩))
    go_ret2
    exact ⟨gives_t rfl rfl, n, rfl⟩
theorem readLimit_any (s : ByteArray) (w : World) (hw : MaxIs w) (hs : s.size ≤ 1000000) :
    Calls Tryz.prog 172 #[.string s] w fun e w' => GivesO (limitC s.data.toList) (fun x => .tuple #[.string ⟨x.1.toArray⟩, .string ⟨x.2.toArray⟩]) e ∧ ∃ n, w' = w.drewN n := by
  obtain ⟨A, hA⟩ := bytes_ex (Lib.trimPrefix s.data.toList [40])
  obtain ⟨B, hB⟩ := bytes_ex (Lib.trimSuffix A.data.toList [41])
  obtain ⟨C, hC⟩ := bytes_ex (Lib.cut B.data.toList [32]).1
  obtain ⟨D, hD⟩ := bytes_ex (Lib.cut B.data.toList [32]).2.1
  have sA : A.size ≤ s.size := by have := trimP_len s.data.toList [40]; rw [size_of hA]; simpa using this
  have sB : B.size ≤ s.size := by have := trimS_len' A.data.toList [41]; have h := len_data A; rw [size_of hB]; omega
  have sD : D.size ≤ s.size := by have := (cut_len B.data.toList 32).2; have h := len_data B; rw [size_of hD]; omega
  refine (readLimit_walk s A B C D (Lib.hasPrefix s.data.toList [40]) (Lib.hasSuffix A.data.toList [41]) (Lib.cut B.data.toList [32]).2.2 (signB C) (isVerK D) w hw
    (fun wx => prefix_lib s ⟨#[40]⟩ A _ wx hA.symm rfl) (fun wx => suffix_lib A ⟨#[41]⟩ B _ wx (by omega) hB.symm rfl) (fun wx hx => cut_lib B C D 32 _ wx hx (by omega) (by rw [hC, hD]))
    (fun wx => isSign_any C wx) (fun wx => readVersion_any D wx (by omega))).mono ?_
  rintro e w' ⟨h, hn⟩
  refine ⟨?_, hn⟩
  have HL : limitC s.data.toList = if Lib.hasPrefix s.data.toList [40] = true ∧ Lib.hasSuffix A.data.toList [41] = true ∧ (Lib.cut B.data.toList [32]).2.2 = true ∧ signB C = true ∧ isVerK D = true then some (C.data.toList, D.data.toList) else none := by
    unfold limitC
    rw [← hA, ← hB, ← hC, ← hD, signB_is]
    rfl
  rw [HL]
  unfold Gives at h
  simp only [Bool.and_eq_true, and_assoc] at h
  split at h
  · rename_i hc
    rw [if_pos hc]
    exact h
  · rename_i hc
    rw [if_neg hc]
    exact h
end Go.Proofs.YtgnfknjopafngaaGreatDoor
namespace Go.Proofs.YtgnfknjopafngaaGreatDoor
open Go.RowKit
def chV (c : M.Ch) : Value := .agg #[.string ⟨c.name.toArray⟩, .string ⟨c.sign.toArray⟩, .string ⟨c.ver.toArray⟩]
theorem newB (w : World) (xs : List Value) (t : TypeId) (n : Nat) :
    Below w.heap.size w ((w.alloc (.cells xs.toArray t)).drewN n) ∧ ((w.alloc (.cells xs.toArray t)).drewN n).heap.size = w.heap.size + 1 ∧
      (∀ j u, xs[j]? = some u → ((w.alloc (.cells xs.toArray t)).drewN n).cell? ⟨w.heap.size, j, none⟩ = some u) ∧ ∀ o, ((w.alloc (.cells xs.toArray t)).drewN n).frozen? ⟨w.heap.size, o, none⟩ = false := by
  refine ⟨below_drewN ((Below.refl _ w).alloc (Nat.le_refl _) _) n, by simp, fun j u hj => ?_, fun o => ?_⟩
  · show (w.alloc (.cells xs.toArray t)).cell? ⟨w.heap.size, j, none⟩ = some u
    unfold World.cell?
    rw [(MapKept.heap_alloc w _).1]
    simp [hj]
  · show (w.alloc (.cells xs.toArray t)).frozen? ⟨w.heap.size, o, none⟩ = false
    unfold World.frozen?
    rw [(MapKept.heap_alloc w _).1]
    simp
theorem setC_off (w : World) (b o : Nat) (v : Value) (o' : Nat) (h : o' ≠ o) : (w.setCell ⟨b, o, none⟩ v).cell? ⟨b, o', none⟩ = w.cell? ⟨b, o', none⟩ :=
  World.cell?_setCell_other _ _ _ _ (by intro e; cases e; exact h rfl)
theorem setC_blk (w : World) (b o : Nat) (v : Value) (g o' : Nat) (h : g ≠ b) : (w.setCell ⟨b, o, none⟩ v).cell? ⟨g, o', none⟩ = w.cell? ⟨g, o', none⟩ :=
  World.cell?_setCell_other _ _ _ _ (by intro e; cases e; exact h rfl)
theorem setC_size (w : World) (a : Addr) (v : Value) : (w.setCell a v).heap.size = w.heap.size := by simp [World.setCell]
theorem set3 (X : World) (b : Nat) (a0 a1 a2 u0 u1 u2 : Value) (h0 : X.cell? ⟨b, 0, none⟩ = some u0) (h1 : X.cell? ⟨b, 1, none⟩ = some u1) (h2 : X.cell? ⟨b, 2, none⟩ = some u2) :
    (((X.setCell ⟨b, 0, none⟩ a0).setCell ⟨b, 1, none⟩ a1).setCell ⟨b, 2, none⟩ a2).cell? ⟨b, 0, none⟩ = some a0 ∧
    (((X.setCell ⟨b, 0, none⟩ a0).setCell ⟨b, 1, none⟩ a1).setCell ⟨b, 2, none⟩ a2).cell? ⟨b, 1, none⟩ = some a1 ∧
    (((X.setCell ⟨b, 0, none⟩ a0).setCell ⟨b, 1, none⟩ a1).setCell ⟨b, 2, none⟩ a2).cell? ⟨b, 2, none⟩ = some a2 := by
  refine ⟨?_, ?_, ?_⟩
  · rw [setC_off _ _ _ _ _ (by decide), setC_off _ _ _ _ _ (by decide), World.cell?_setCell_same _ _ _ h0]
  · rw [setC_off _ _ _ _ _ (by decide), World.cell?_setCell_same _ _ _ (by rw [setC_off _ _ _ _ _ (by decide)]; exact h1)]
  · rw [World.cell?_setCell_same _ _ _ (by rw [setC_off _ _ _ _ _ (by decide), setC_off _ _ _ _ _ (by decide)]; exact h2)]
set_option maxRecDepth 100000 in
set_option maxHeartbeats 2000000 in
theorem readChoice_walk (s A B : ByteArray) (ok nm : Bool) (L : Option (List UInt8 × List UInt8)) (w : World) (hw : Hid (MaxIs w))
    (c1 : ∀ wx, MaxIs wx → Calls Tryz.prog 169 #[.string s, .string ⟨#[32]⟩] wx fun e w' => e = .returned (.tuple #[.string A, .string B, .bool ok]) ∧ ∃ n, w' = wx.drewN n)
    (c2 : ∀ wx, Calls Tryz.prog 170 #[.string A] wx fun e w' => Gives nm (.string A) e ∧ w' = wx)
    (c3 : ∀ wx, MaxIs wx → Calls Tryz.prog 172 #[.string B] wx fun e w' => GivesO L (fun x => .tuple #[.string ⟨x.1.toArray⟩, .string ⟨x.2.toArray⟩]) e ∧ ∃ n, w' = wx.drewN n) :
    Calls Tryz.prog 135 #[.string s] w fun e w' => GivesO (if nm = true then (if ok = true then L.map (fun x => (⟨A.data.toList, x.1, x.2⟩ : M.Ch)) else some ⟨A.data.toList, [], []⟩) else none) chV e ∧ Below w.heap.size w w' := by
  have hwA : ∀ o, MaxIs (w.alloc o) := fun o => hw.out.below ((Below.refl _ w).alloc (Nat.le_refl _) _)
  go_enter Tryz.func135, Tryz.ntmps135
  go_wp2_with fail
  refine (c1 _ (hwA _)).mono ?_
  rintro e w' ⟨rfl, n, rfl⟩
  obtain ⟨hB1, hz, hcl, hfz⟩ := newB w [.string ⟨#[]⟩, .string ⟨#[]⟩, .string ⟨#[]⟩] 156 n
  generalize hW : (w.alloc (.cells [Value.string ⟨#[]⟩, .string ⟨#[]⟩, .string ⟨#[]⟩].toArray 156)).drewN n = W1 at hB1 hz hcl hfz
  have q0 := hcl 0 _ rfl
  have q1 := hcl 1 _ rfl
  have q2 := hcl 2 _ rfl
  have HB1 : Hid (Below w.heap.size w W1) := hB1
  have hm1 := hw.out.below hB1
  replace hm1 : Hid (MaxIs W1) := hm1
  have hmA : ∀ o, MaxIs (W1.alloc o) := fun o => hm1.out.below ((Below.refl _ W1).alloc (Nat.le_refl _) _)
  have hBA : ∀ o n, Below w.heap.size w ((W1.alloc o).drewN n) := fun o n => bt HB1.out (below_drewN ((Below.refl _ W1).alloc (Nat.le_refl _) _) n)
  change _ = _ at hW
  simp only [List.toArray] at hW
  cases nm
  · clear c3
    replace c2 : ∀ wx, Calls Tryz.prog 170 #[.string A] wx fun e w' => Thrown e ∧ w' = wx := fun wx => (c2 wx).mono fun e w' h => ⟨gives_thr rfl h.1, h.2⟩
    go_wp2_with ((go_at_call 170; refine (c2 _).mono ?_; rintro e w' ⟨rfl, rfl⟩))
    exact ⟨rfl, givesO_f rfl rfl, HB1.out⟩
  replace c2 : ∀ wx, Calls Tryz.prog 170 #[.string A] wx fun e w' => e = .returned (.string A) ∧ w' = wx := fun wx => (c2 wx).mono fun e w' h => ⟨gives_val rfl h.1, h.2⟩
  cases ok
  · clear c3
    go_wp2_with ((go_at_call 170; refine (c2 _).mono ?_; rintro e w' ⟨rfl, rfl⟩))
    obtain ⟨k0, k1, k2⟩ := set3 w' w.heap.size (.string A) (.string ⟨#[]⟩) (.string ⟨#[]⟩) _ _ _ q0 q1 q2
    have hp : ∀ o j, ((((w'.setCell ⟨w.heap.size, 0, none⟩ (.string A)).setCell ⟨w.heap.size, 1, none⟩ (.string ⟨#[]⟩)).setCell ⟨w.heap.size, 2, none⟩ (.string ⟨#[]⟩)).alloc o).cell? ⟨w.heap.size, j, none⟩ = (((w'.setCell ⟨w.heap.size, 0, none⟩ (.string A)).setCell ⟨w.heap.size, 1, none⟩ (.string ⟨#[]⟩)).setCell ⟨w.heap.size, 2, none⟩ (.string ⟨#[]⟩)).cell? ⟨w.heap.size, j, none⟩ := fun o j => World.cell?_alloc_past _ _ _ (by simp [hz])
    refine bodyPost_ret (v := .agg #[.string A, .string ⟨#[]⟩, .string ⟨#[]⟩]) (by simp [results, Tryz.results135, go_sem, hp, k0, k1, k2]) rfl ⟨givesO_t _ rfl rfl, ?_⟩
    exact (((HB1.out.setCell (Nat.le_refl _) _).setCell (Nat.le_refl _) _).setCell (Nat.le_refl _) _).alloc (by simp; omega) _
  cases L with
  | none =>
    replace c3 : ∀ wx, MaxIs wx → Calls Tryz.prog 172 #[.string B] wx fun e w' => Thrown e ∧ ∃ n, w' = wx.drewN n := fun wx h => (c3 wx h).mono fun e w' h => h
    go_wp2_with (first | (go_at_call 170; refine (c2 _).mono ?_; rintro e w' ⟨rfl, rfl⟩) | (go_at_call 172; refine (c3 _ (hmA _)).mono ?_; rintro e w' ⟨rfl, k, rfl⟩))
    exact ⟨rfl, givesO_f rfl rfl, hBA _ k⟩
  | some x =>
    replace c3 : ∀ wx, MaxIs wx → Calls Tryz.prog 172 #[.string B] wx fun e w' => e = .returned (.tuple #[.string ⟨x.1.toArray⟩, .string ⟨x.2.toArray⟩]) ∧ ∃ n, w' = wx.drewN n := fun wx h => (c3 wx h).mono fun e w' h => h
    go_wp2_with (first | (go_at_call 170; refine (c2 _).mono ?_; rintro e w' ⟨rfl, rfl⟩) | (go_at_call 172; refine (c3 _ (hmA _)).mono ?_; rintro e w' ⟨rfl, k, rfl⟩))
    have hB9 := hBA (.cells #[.string A, .string ⟨#[]⟩, .string ⟨#[]⟩] 156) k
    obtain ⟨hB5, hz5, hcl5, _⟩ := newB w' [.string A, .string ⟨#[]⟩, .string ⟨#[]⟩] 156 k
    have hold : ∀ j, ((w'.alloc (.cells #[.string A, .string ⟨#[]⟩, .string ⟨#[]⟩] 156)).drewN k).cell? ⟨w.heap.size, j, none⟩ = w'.cell? ⟨w.heap.size, j, none⟩ := fun j => hB5.cell (p := ⟨w.heap.size, j, none⟩) (by simp [hz])
    generalize (w'.alloc (.cells #[.string A, .string ⟨#[]⟩, .string ⟨#[]⟩] 156)).drewN k = W5 at hB9 hold ⊢
    have hne : w.heap.size ≠ w.heap.size + 1 := by omega
    obtain ⟨k0, k1, k2⟩ := set3 ((W5.setCell ⟨w.heap.size + 1, 1, none⟩ (.string ⟨x.1.toArray⟩)).setCell ⟨w.heap.size + 1, 2, none⟩ (.string ⟨x.2.toArray⟩)) w.heap.size (.string A) (.string ⟨x.1.toArray⟩) (.string ⟨x.2.toArray⟩) _ _ _
      (by rw [setC_blk _ _ _ _ _ _ hne, setC_blk _ _ _ _ _ _ hne, hold]; exact q0) (by rw [setC_blk _ _ _ _ _ _ hne, setC_blk _ _ _ _ _ _ hne, hold]; exact q1) (by rw [setC_blk _ _ _ _ _ _ hne, setC_blk _ _ _ _ _ _ hne, hold]; exact q2)
    refine bodyPost_ret (v := .agg #[.string A, .string ⟨x.1.toArray⟩, .string ⟨x.2.toArray⟩]) (by simp [results, Tryz.results135, go_sem, k0, k1, k2]) rfl ⟨givesO_t _ rfl rfl, ?_⟩
    exact ((((hB9.setCell (show w.heap.size ≤ w.heap.size + 1 by omega) _).setCell (show w.heap.size ≤ w.heap.size + 1 by omega) _).setCell (Nat.le_refl _) _).setCell (Nat.le_refl _) _).setCell (Nat.le_refl _) _
theorem readChoice_any (s : ByteArray) (w : World) (hw : MaxIs w) (hs : s.size ≤ 1000000) :
    Calls Tryz.prog 135 #[.string s] w fun e w' => GivesO (choiceC s.data.toList) chV e ∧ Below w.heap.size w w' := by
  obtain ⟨A, hA⟩ := bytes_ex (Lib.cut s.data.toList [32]).1
  obtain ⟨B, hB⟩ := bytes_ex (Lib.cut s.data.toList [32]).2.1
  have h := len_data s
  have sA : A.size ≤ s.size := by have := (cut_len s.data.toList 32).1; rw [size_of hA]; omega
  have sB : B.size ≤ s.size := by have := (cut_len s.data.toList 32).2; rw [size_of hB]; omega
  refine (readChoice_walk s A B (Lib.cut s.data.toList [32]).2.2 (isNameK A) (limitC B.data.toList) w hw
    (fun wx hx => cut_lib s A B 32 _ wx hx (by omega) (by rw [hA, hB])) (fun wx => readName_any A wx (by omega)) (fun wx hx => readLimit_any B wx hx (by omega))).mono ?_
  rintro e w' ⟨h, hn⟩
  refine ⟨?_, hn⟩
  have HL : choiceC s.data.toList = (if isNameK A = true then (if (Lib.cut s.data.toList [32]).2.2 = true then (limitC B.data.toList).map (fun x => (⟨A.data.toList, x.1, x.2⟩ : M.Ch)) else some ⟨A.data.toList, [], []⟩) else none) := by
    unfold choiceC
    rw [← hA, ← hB]
    show (if isNameK A = true then _ else _) = _
    cases limitC B.data.toList <;> rfl
  rw [HL]
  exact h
end Go.Proofs.YtgnfknjopafngaaGreatDoor
namespace Go.Proofs.YtgnfknjopafngaaGreatDoor
open Go.RowKit
def firstB (a b : ByteArray) : ByteArray := ⟨(M.firstS a.data.toList b.data.toList).toArray⟩
theorem firstB_b {a b : ByteArray} (h : a.toList.isEmpty = true ∨ (b.toList.isEmpty = false ∧ Op.bytesLess b.toList a.toList = true)) : firstB a b = b := by
  apply bytes_of
  show M.firstS a.data.toList b.data.toList = _
  unfold M.firstS
  rw [Lib.toList_data, Lib.toList_data] at h
  rw [if_pos]
  rcases h with h | ⟨h1, h2⟩
  · exact .inl (List.isEmpty_iff.1 h)
  · exact .inr ⟨(by intro e; rw [e] at h1; cases h1), h2⟩
theorem firstB_a {a b : ByteArray} (h0 : a.toList.isEmpty = false) (h : b.toList.isEmpty = true ∨ Op.bytesLess b.toList a.toList = false) : firstB a b = a := by
  apply bytes_of
  show M.firstS a.data.toList b.data.toList = _
  unfold M.firstS
  rw [Lib.toList_data] at h0
  rw [Lib.toList_data, Lib.toList_data] at h
  rw [if_neg]
  rintro (h1 | ⟨h1, h2⟩)
  · rw [h1] at h0; cases h0
  · rcases h with h | h
    · exact h1 (List.isEmpty_iff.1 h)
    · rw [h2] at h; cases h
end Go.Proofs.YtgnfknjopafngaaGreatDoor
namespace Go.Proofs.YtgnfknjopafngaaGreatDoor
open Go.RowKit
def fitsB (A S V N P : ByteArray) : Bool := M.fitsS ⟨A.data.toList, S.data.toList, V.data.toList⟩ ⟨N.data.toList, P.data.toList, [], [], []⟩
theorem fitsB_no {A S V N P : ByteArray} (h : (A.toList == N.toList) = false) : fitsB A S V N P = false := by
  unfold fitsB M.fitsS
  rw [if_neg]
  rw [Lib.toList_data, Lib.toList_data, beq_eq_false_iff_ne] at h
  exact h
theorem fitsB_is {A S V N P : ByteArray} (h : (A.toList == N.toList) = true) : fitsB A S V N P =
    (if S.toList == [60, 60] then decide (verB P V < 0) else if S.toList == [60, 61] then decide (verB P V ≤ 0) else if S.toList == [61] then decide (verB P V = 0) else if S.toList == [62, 61] then decide (0 ≤ verB P V) else if S.toList == [62, 62] then decide (0 < verB P V) else true) := by
  unfold fitsB M.fitsS
  rw [Lib.toList_data, Lib.toList_data, beq_iff_eq] at h
  rw [if_pos h]
  simp only [Lib.toList_data, beq_iff_eq]
  rfl
end Go.Proofs.YtgnfknjopafngaaGreatDoor
namespace Go.Proofs.YtgnfknjopafngaaGreatDoor
open Go.RowKit
def PkCell (w : World) (g o : Nat) (p : M.Pk) : Prop :=
  ∃ nv bv fv, w.cell? ⟨g, o, none⟩ = some (.string ⟨p.name.toArray⟩) ∧ w.cell? ⟨g, o + 1, none⟩ = some (.string ⟨p.ver.toArray⟩) ∧ w.cell? ⟨g, o + 2, none⟩ = some nv ∧ w.cell? ⟨g, o + 3, none⟩ = some bv ∧ w.cell? ⟨g, o + 4, none⟩ = some fv ∧
    NeedsIn w 0 w.heap.size nv p.needs ∧ RowIn w 0 w.heap.size bv p.bars.length (chsCells p.bars) ∧ RowIn w 0 w.heap.size fv p.files.length (flsCells p.files)
def PksIn (w : World) (v : Value) (l : List M.Pk) : Prop :=
  (l = [] ∧ ∃ a c, v = .slice a 0 c) ∨ ∃ g off cap, v = .slice (some ⟨g, off, none⟩) l.length cap ∧ l.length ≤ cap ∧ g < w.heap.size ∧ ∀ (i : Nat) p, l[i]? = some p → PkCell w g (off + i * 5) p
theorem PkCell.below {w w' : World} {g o : Nat} {p : M.Pk} (h : PkCell w g o p) (hb : Below w.heap.size w w') : PkCell w' g o p := by
  obtain ⟨nv, bv, fv, h0, h1, h2, h3, h4, h5, h6, h7⟩ := h
  have hg : g < w.heap.size := World.block_lt_of_cell? _ _ h0
  have k : ∀ j, w'.cell? ⟨g, j, none⟩ = w.cell? ⟨g, j, none⟩ := fun j => hb.cell (p := ⟨g, j, none⟩) hg
  have kk : ∀ g' o', 0 ≤ g' → g' < w.heap.size → CellS w w' g' o' := fun g' o' _ hg' => belowS hb hg'
  exact ⟨nv, bv, fv, (k _).trans h0, (k _).trans h1, (k _).trans h2, (k _).trans h3, (k _).trans h4, (h5.keep kk).wide (Nat.zero_le _) hb.size, (h6.keep kk).wide (Nat.zero_le _) hb.size, (h7.keep kk).wide (Nat.zero_le _) hb.size⟩
theorem PksIn.below {w w' : World} {v : Value} {l : List M.Pk} (h : PksIn w v l) (hb : Below w.heap.size w w') : PksIn w' v l := by
  rcases h with h | ⟨g, off, cap, h1, h2, h3, h4⟩
  · exact .inl h
  · exact .inr ⟨g, off, cap, h1, h2, Nat.lt_of_lt_of_le h3 hb.size, fun i p hp => (h4 i p hp).below hb⟩
theorem PksIn.form {w : World} {v : Value} {l : List M.Pk} (h : PksIn w v l) : ∃ a cap, v = .slice a l.length cap := by
  rcases h with ⟨rfl, a, c, rfl⟩ | ⟨g, off, cap, rfl, _⟩
  · exact ⟨a, c, rfl⟩
  · exact ⟨_, _, rfl⟩
theorem PksIn.cells {w : World} {a : Option Addr} {n cap : Nat} {l : List M.Pk} (h : PksIn w (.slice a n cap) l) {i : Nat} (hi : i < l.length) :
    ∃ g off, a = some ⟨g, off, none⟩ ∧ n = l.length ∧ n ≤ cap ∧ PkCell w g (off + i * 5) l[i] := by
  rcases h with ⟨rfl, _⟩ | ⟨g, off, cap', e, h2, h3, h4⟩
  · simp at hi
  · cases e
    exact ⟨g, off, rfl, rfl, h2, h4 i _ (List.getElem?_eq_getElem hi)⟩
def fitsC (c : M.Ch) (p : M.Pk) : Bool := M.fitsS c p
theorem fitsB_c (c : M.Ch) (p : M.Pk) : fitsB ⟨c.name.toArray⟩ ⟨c.sign.toArray⟩ ⟨c.ver.toArray⟩ ⟨p.name.toArray⟩ ⟨p.ver.toArray⟩ = fitsC c p := rfl
end Go.Proofs.YtgnfknjopafngaaGreatDoor
namespace Go.Proofs.YtgnfknjopafngaaGreatDoor
open Go.RowKit
structure SmallP (p : M.Pk) : Prop where
  ver : p.ver.length ≤ 8192
  needn : p.needs.length ≤ 1000000
  needs : ∀ g ∈ p.needs, g.length ≤ 1000000 ∧ ∀ c ∈ g, c.ver.length ≤ 8192
  barn : p.bars.length ≤ 1000000
  bars : ∀ c ∈ p.bars, c.ver.length ≤ 8192
  filen : p.files.length ≤ 1000000
end Go.Proofs.YtgnfknjopafngaaGreatDoor
namespace Go.Proofs.YtgnfknjopafngaaGreatDoor
open Go.RowKit
theorem PkVal.cell {w : World} {p : M.Pk} {a b nv bv fv : Value} (h : PkVal w p (.agg #[a, b, nv, bv, fv])) (t : TypeId) :
    PkCell (w.alloc (.cells #[a, b, nv, bv, fv] t)) w.heap.size 0 p := by
  obtain ⟨nv', bv', fv', e, h5, h6, h7⟩ := h
  cases e
  have hB : Below w.heap.size w (w.alloc (.cells #[.string ⟨p.name.toArray⟩, .string ⟨p.ver.toArray⟩, nv, bv, fv] t)) := (Below.refl _ w).alloc (Nat.le_refl _) _
  obtain ⟨_, _, hcl, _⟩ := newB w [.string ⟨p.name.toArray⟩, .string ⟨p.ver.toArray⟩, nv, bv, fv] t 0
  have kk : ∀ g' o', 0 ≤ g' → g' < w.heap.size → CellS w (w.alloc (.cells #[.string ⟨p.name.toArray⟩, .string ⟨p.ver.toArray⟩, nv, bv, fv] t)) g' o' := fun g' o' _ hg' => belowS hB hg'
  exact ⟨nv, bv, fv, hcl 0 _ rfl, hcl 1 _ rfl, hcl 2 _ rfl, hcl 3 _ rfl, hcl 4 _ rfl, (h5.keep kk).wide (Nat.zero_le _) hB.size, (h6.keep kk).wide (Nat.zero_le _) hB.size, (h7.keep kk).wide (Nat.zero_le _) hB.size⟩
theorem PkVal.below {w w' : World} {p : M.Pk} {v : Value} (h : PkVal w p v) (hb : Below w.heap.size w w') : PkVal w' p v := by
  obtain ⟨nv, bv, fv, e, h5, h6, h7⟩ := h
  have kk : ∀ g' o', 0 ≤ g' → g' < w.heap.size → CellS w w' g' o' := fun g' o' _ hg' => belowS hb hg'
  exact ⟨nv, bv, fv, e, (h5.keep kk).wide (Nat.zero_le _) hb.size, (h6.keep kk).wide (Nat.zero_le _) hb.size, (h7.keep kk).wide (Nat.zero_le _) hb.size⟩
end Go.Proofs.YtgnfknjopafngaaGreatDoor
namespace Go.Proofs.YtgnfknjopafngaaGreatDoor
open Go.RowKit
def PkRow (w : World) : List M.Pk → List Value → Prop
  | [], xs => xs = []
  | p :: l, xs => ∃ nv bv fv xs', xs = .string ⟨p.name.toArray⟩ :: .string ⟨p.ver.toArray⟩ :: nv :: bv :: fv :: xs' ∧
      NeedsIn w 0 w.heap.size nv p.needs ∧ RowIn w 0 w.heap.size bv p.bars.length (chsCells p.bars) ∧ RowIn w 0 w.heap.size fv p.files.length (flsCells p.files) ∧ PkRow w l xs'
theorem PkRow.len {w : World} {l : List M.Pk} {xs : List Value} (h : PkRow w l xs) : xs.length = l.length * 5 := by
  induction l generalizing xs with
  | nil => subst h; rfl
  | cons p l ih =>
    obtain ⟨nv, bv, fv, xs', rfl, _, _, _, h⟩ := h
    have := ih h
    simp only [List.length_cons]
    omega
theorem PkRow.one {w : World} {l : List M.Pk} {xs : List Value} (h : PkRow w l xs) : ∀ u ∈ xs, u.oneCell' = true := by
  induction l generalizing xs with
  | nil => subst h; intro u hu; cases hu
  | cons p l ih =>
    obtain ⟨nv, bv, fv, xs', rfl, h1, h2, h3, h⟩ := h
    obtain ⟨_, _, rfl⟩ := h1.form
    obtain ⟨_, _, rfl⟩ := h2.form
    obtain ⟨_, _, rfl⟩ := h3.form
    intro u hu
    rcases List.mem_cons.1 hu with rfl | hu
    · rfl
    rcases List.mem_cons.1 hu with rfl | hu
    · rfl
    rcases List.mem_cons.1 hu with rfl | hu
    · rfl
    rcases List.mem_cons.1 hu with rfl | hu
    · rfl
    rcases List.mem_cons.1 hu with rfl | hu
    · rfl
    exact ih h u hu
theorem PkRow.app {w : World} {l k : List M.Pk} {xs ys : List Value} (h : PkRow w l xs) (hk : PkRow w k ys) : PkRow w (l ++ k) (xs ++ ys) := by
  induction l generalizing xs with
  | nil => subst h; exact hk
  | cons p l ih =>
    obtain ⟨nv, bv, fv, xs', rfl, h1, h2, h3, h⟩ := h
    exact ⟨nv, bv, fv, xs' ++ ys, rfl, h1, h2, h3, ih h⟩
theorem PkRow.below {w w' : World} {l : List M.Pk} {xs : List Value} (h : PkRow w l xs) (hb : Below w.heap.size w w') : PkRow w' l xs := by
  have kk : ∀ g' o', 0 ≤ g' → g' < w.heap.size → CellS w w' g' o' := fun g' o' _ hg' => belowS hb hg'
  induction l generalizing xs with
  | nil => exact h
  | cons p l ih =>
    obtain ⟨nv, bv, fv, xs', rfl, h1, h2, h3, h⟩ := h
    exact ⟨nv, bv, fv, xs', rfl, (h1.keep kk).wide (Nat.zero_le _) hb.size, (h2.keep kk).wide (Nat.zero_le _) hb.size, (h3.keep kk).wide (Nat.zero_le _) hb.size, ih h⟩
theorem PkRow.cells {w : World} {l : List M.Pk} {xs : List Value} {g off : Nat} (h : PkRow w l xs) (hc : ∀ j u, xs[j]? = some u → w.cell? ⟨g, off + j, none⟩ = some u) :
    ∀ (i : Nat) p, l[i]? = some p → PkCell w g (off + i * 5) p := by
  induction l generalizing xs off with
  | nil => intro i p hp; simp at hp
  | cons q l ih =>
    obtain ⟨nv, bv, fv, xs', rfl, h1, h2, h3, h⟩ := h
    intro i p hp
    cases i with
    | zero =>
      simp at hp
      subst hp
      exact ⟨nv, bv, fv, hc 0 _ rfl, hc 1 _ rfl, hc 2 _ rfl, hc 3 _ rfl, hc 4 _ rfl, h1, h2, h3⟩
    | succ i =>
      have := ih (off := off + 5) h (fun j u hu => by
        have := hc (j + 5) u (by simpa using hu)
        rwa [show off + (j + 5) = off + 5 + j by omega] at this) i p (by simpa using hp)
      rwa [show off + 5 + i * 5 = off + (i + 1) * 5 by omega] at this
theorem PkRow.of {w : World} {l : List M.Pk} {g off : Nat} (hc : ∀ (i : Nat) p, l[i]? = some p → PkCell w g (off + i * 5) p) :
    ∃ xs, PkRow w l xs ∧ ∀ j u, xs[j]? = some u → w.cell? ⟨g, off + j, none⟩ = some u := by
  induction l generalizing off with
  | nil => exact ⟨[], rfl, fun j u h => by simp at h⟩
  | cons q l ih =>
    obtain ⟨xs', h, hx⟩ := ih (off := off + 5) (fun i p hp => by
      have := hc (i + 1) p (by simpa using hp)
      rwa [show off + (i + 1) * 5 = off + 5 + i * 5 by omega] at this)
    obtain ⟨nv, bv, fv, c0, c1, c2, c3, c4, h1, h2, h3⟩ := hc 0 q rfl
    refine ⟨_, ⟨nv, bv, fv, xs', rfl, h1, h2, h3, h⟩, fun j u hu => ?_⟩
    match j, hu with
    | 0, hu => simp at hu; subst hu; exact c0
    | 1, hu => simp at hu; subst hu; exact c1
    | 2, hu => simp at hu; subst hu; exact c2
    | 3, hu => simp at hu; subst hu; exact c3
    | 4, hu => simp at hu; subst hu; exact c4
    | j + 5, hu =>
      have := hx j u (by simpa using hu)
      rwa [show off + 5 + j = off + (j + 5) by omega] at this
theorem PksIn.own {w : World} {B e : Nat} {v : Value} {l : List M.Pk} {xs : List Value} (h : PkRow w l xs) (ho : w.ownsRow B e 5 v l.length xs) (he : e ≠ 9 := by decide) : PksIn w v l := by
  obtain ⟨rfl, h0, rfl⟩ | ⟨g, cap, rfl, h2, _, h4, h5⟩ := RowIn.own ho (fun h => absurd h he)
  · exact .inl ⟨List.length_eq_zero_iff.mp h0, none, 0, rfl⟩
  · exact .inr ⟨g, 0, cap, rfl, h2, h4.1, h.cells (fun j u hu => by rw [Nat.zero_add]; exact h5 j u hu)⟩
end Go.Proofs.YtgnfknjopafngaaGreatDoor
namespace Go.Proofs.YtgnfknjopafngaaGreatDoor
open Go.RowKit
def SrcIn (w wr : World) (v : Value) (l : List M.Pk) : Prop :=
  (l = [] ∧ ∃ a c, v = .slice a 0 c) ∨ ∃ g off c xs, v = .slice (some ⟨g, off, none⟩) l.length c ∧ l.length ≤ c ∧ PkRow w l xs ∧ g < wr.heap.size ∧ ∀ j u, xs[j]? = some u → wr.cell? ⟨g, off + j, none⟩ = some u
def LeftIn (w wr : World) (v : Value) (l : List M.Pk) : Prop :=
  SrcIn w wr v l ∧ (l ≠ [] → ∀ g o n c, v = .slice (some ⟨g, o, none⟩) n c → ∃ cur fz, wr.heap[g]? = some (.cells cur 30 fz))
theorem SrcIn.of {w : World} {v : Value} {l : List M.Pk} (h : PksIn w v l) : SrcIn w w v l := by
  rcases h with h | ⟨g, off, c, rfl, h1, h2, h3⟩
  · exact .inl h
  · obtain ⟨xs, a, b⟩ := PkRow.of h3
    exact .inr ⟨g, off, c, xs, rfl, h1, a, h2, b⟩
theorem SrcIn.keep {w wr w' : World} {v : Value} {l : List M.Pk} (h : SrcIn w wr v l) (hz : wr.heap.size ≤ w'.heap.size) (hk : l ≠ [] → ∀ g o n c, v = .slice (some ⟨g, o, none⟩) n c → g < wr.heap.size → w'.heap[g]? = wr.heap[g]?) : SrcIn w w' v l := by
  by_cases h0 : l = []
  · subst h0
    rcases h with h | ⟨g, off, c, xs, rfl, _⟩
    · exact .inl h
    · exact .inl ⟨rfl, _, _, rfl⟩
  · rcases h with h | ⟨g, off, c, xs, rfl, h1, h2, h3, h4⟩
    · exact .inl h
    · exact .inr ⟨g, off, c, xs, rfl, h1, h2, by omega, fun j u hu => (World.cell?_of_block (a := ⟨g, off + j, none⟩) (hk h0 _ _ _ _ rfl h3)).trans (h4 j u hu)⟩
theorem LeftIn.keep {w wr w' : World} {v : Value} {l : List M.Pk} (h : LeftIn w wr v l) (hz : wr.heap.size ≤ w'.heap.size) (hk : l ≠ [] → ∀ g o n c, v = .slice (some ⟨g, o, none⟩) n c → g < wr.heap.size → w'.heap[g]? = wr.heap[g]?) : LeftIn w w' v l := by
  refine ⟨h.1.keep hz hk, fun h0 g o n c e => ?_⟩
  obtain ⟨cur, fz, h1⟩ := h.2 h0 g o n c e
  exact ⟨cur, fz, (hk h0 g o n c e (Array.getElem?_eq_some_iff.1 h1).1).trans h1⟩
theorem LeftIn.below {w wr w' : World} {v : Value} {l : List M.Pk} (h : LeftIn w wr v l) (hb : Below wr.heap.size wr w') : LeftIn w w' v l := h.keep hb.size (fun _ g _ _ _ _ hg => hb.block g hg)
theorem LeftIn.grown {w wr w' : World} {v ov : Value} {l : List M.Pk} {B e n : Nat} {xs : List Value} {size : Nat} (h : LeftIn w wr v l) (ho : wr.ownsRow B e size ov n xs) (he : e ≠ 30) (hg : wr.grownBy w' ov.ownBlock) : LeftIn w w' v l := by
  refine h.keep hg.size (fun h0 g o n' c e' hlt => hg.block g hlt fun e2 => ?_)
  obtain ⟨cur, fz, h1⟩ := h.2 h0 g o n' c e'
  obtain ⟨_, ⟨rfl, _⟩ | ⟨g', cap', cur', rfl, _, hg', _⟩⟩ := ho
  · cases e2
  · injection e2 with e2
    subst e2
    rw [hg'] at h1
    injection h1 with h1
    injection h1 with _ h2
    exact he h2
theorem LeftIn.form {w wr : World} {v : Value} {l : List M.Pk} (h : LeftIn w wr v l) : ∃ a cap, v = .slice a l.length cap := by
  rcases h.1 with ⟨rfl, a, c, rfl⟩ | ⟨g, off, cap, xs, rfl, _⟩
  · exact ⟨a, c, rfl⟩
  · exact ⟨_, _, rfl⟩
theorem PkRow.split {w : World} {l1 l2 : List M.Pk} {xs : List Value} (h : PkRow w (l1 ++ l2) xs) : ∃ ys zs, xs = ys ++ zs ∧ PkRow w l1 ys ∧ PkRow w l2 zs := by
  induction l1 generalizing xs with
  | nil => exact ⟨[], xs, rfl, rfl, h⟩
  | cons p l ih =>
    obtain ⟨nv, bv, fv, xs', rfl, h1, h2, h3, h⟩ := h
    obtain ⟨ys, zs, rfl, ha, hb⟩ := ih h
    exact ⟨_, zs, rfl, ⟨nv, bv, fv, ys, rfl, h1, h2, h3, ha⟩, hb⟩
theorem LeftIn.cut {w wr : World} {a : Option Addr} {n c : Nat} {l : List M.Pk} (h : LeftIn w wr (.slice a n c) l) {k : Nat} (hk : k < l.length) :
    ∃ g off, a = some ⟨g, off, none⟩ ∧ n = l.length ∧ n ≤ c ∧ LeftIn w wr (.slice (some ⟨g, off, none⟩) k k) (l.take k) ∧ SrcIn w wr (.slice (some ⟨g, off + (k + 1) * 5, none⟩) (l.length - (k + 1)) (c - (k + 1))) (l.drop (k + 1)) := by
  obtain ⟨h, ht⟩ := h
  rcases h with ⟨rfl, _⟩ | ⟨g, off, c', xs, e, h1, h2, h3, h4⟩
  · simp at hk
  · cases e
    have hne : l ≠ [] := fun e => by rw [e] at hk; simp at hk
    have hl : l = l.take k ++ ([l[k]] ++ l.drop (k + 1)) := by simp
    rw [hl] at h2
    obtain ⟨ys, zs, rfl, ha, hb⟩ := h2.split
    obtain ⟨us, vs, rfl, hb1, hb2⟩ := hb.split
    have hy := ha.len
    have hu := hb1.len
    have hy' : ys.length = k * 5 := by rw [hy, List.length_take, Nat.min_eq_left (by omega)]
    simp only [List.length_singleton] at hu
    refine ⟨g, off, rfl, rfl, h1, ⟨.inr ⟨g, off, k, ys, by rw [List.length_take, Nat.min_eq_left (by omega)], by rw [List.length_take]; omega, ha, h3, fun j u hj => h4 j u ?_⟩, fun _ g' o n' c2 e => by cases e; exact ht hne _ _ _ _ rfl⟩, .inr ⟨g, _, _, vs, by rw [List.length_drop], by rw [List.length_drop]; omega, hb2, h3, fun j u hj => ?_⟩⟩
    · rw [List.getElem?_append_left (List.getElem?_eq_some_iff.1 hj).1]; exact hj
    · have := h4 ((k + 1) * 5 + j) u (by rw [List.getElem?_append_right (by omega), List.getElem?_append_right (by omega)]; rw [← hj]; congr 1; omega)
      rwa [← Nat.add_assoc] at this
end Go.Proofs.YtgnfknjopafngaaGreatDoor
namespace Go.Proofs.YtgnfknjopafngaaGreatDoor
open Go.RowKit
def nmCells (l : List (List UInt8)) : List Value := l.map strV
end Go.Proofs.YtgnfknjopafngaaGreatDoor
