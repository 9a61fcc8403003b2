import Derived.Test.YtgnfknjopafngaaGreatDoorKkr
import Derived.Shelf.Strconv.Clone
import Derived.Shelf.Slices.Clone
import Derived.Test.YtgnfknjopafngaaGreatDoorProg
namespace Go.Proofs.YtgnfknjopafngaaGreatDoor
open Go.RowKit
def PrPost (s : ByteArray) (w : World) (e : Ending) (w' : World) : Prop :=
  Below w.heap.size w w' ∧ match M.readS s.data.toList with
    | .inl n => ∃ fb, e = .returned (.tuple #[.agg #[.string ⟨#[]⟩, .string ⟨#[]⟩, .slice none 0 0, .slice none 0 0, .slice none 0 0], .iface 112 (.pointer (some ⟨fb, 0, none⟩))]) ∧ FaultAt w' fb 1 0 n ⟨#[]⟩
    | .inr p => ∃ v, e = .returned (.tuple #[v, .nilIface]) ∧ PkFrom w.heap.size w' p v
structure Caught (pb eb n : Nat) (w W Y : World) : Prop where
  c0 : Y.cell? ⟨pb, 0, none⟩ = some (.string ⟨#[]⟩)
  c1 : Y.cell? ⟨pb, 1, none⟩ = some (.string ⟨#[]⟩)
  c2 : Y.cell? ⟨pb, 2, none⟩ = some (.slice none 0 0)
  c3 : Y.cell? ⟨pb, 3, none⟩ = some (.slice none 0 0)
  c4 : Y.cell? ⟨pb, 4, none⟩ = some (.slice none 0 0)
  ce : Y.cell? ⟨eb, 0, none⟩ = some (.iface 112 (.pointer (some ⟨W.heap.size, 0, none⟩)))
  f : FaultAt Y W.heap.size 1 0 n ⟨#[]⟩
  b : Below w.heap.size w Y
theorem caught_is (pb eb n : Nat) (w W : World) (hp : ∀ j, j < 5 → ∃ u, W.cell? ⟨pb, j, none⟩ = some u) (u0 : Value) (he : W.cell? ⟨eb, 0, none⟩ = some u0) (hne : eb ≠ pb) (hb : Below w.heap.size w W) (h1 : w.heap.size ≤ pb) (h2 : w.heap.size ≤ eb) :
    Caught pb eb n w W (caughtW pb eb n W) := by
  obtain ⟨v0, e0⟩ := hp 0 (by decide)
  have hpl : pb < W.heap.size := World.block_lt_of_cell? _ _ e0
  have hel : eb < W.heap.size := World.block_lt_of_cell? _ _ he
  obtain ⟨z0, z1, z2, z3, z4⟩ := set5 W pb (.string ⟨#[]⟩) (.string ⟨#[]⟩) (.slice none 0 0) (.slice none 0 0) (.slice none 0 0) hp
  unfold caughtW
  have hs : ((((((W.setCell ⟨pb, 0, none⟩ (.string ⟨#[]⟩)).setCell ⟨pb, 1, none⟩ (.string ⟨#[]⟩)).setCell ⟨pb, 2, none⟩ (.slice none 0 0)).setCell ⟨pb, 3, none⟩ (.slice none 0 0)).setCell ⟨pb, 4, none⟩ (.slice none 0 0)).setCell ⟨eb, 0, none⟩ (.iface 112 (.pointer (some ⟨W.heap.size, 0, none⟩)))).heap.size = W.heap.size := by
    rw [setC_size, setC_size, setC_size, setC_size, setC_size, setC_size]
  have hbs : Below w.heap.size w ((((((W.setCell ⟨pb, 0, none⟩ (.string ⟨#[]⟩)).setCell ⟨pb, 1, none⟩ (.string ⟨#[]⟩)).setCell ⟨pb, 2, none⟩ (.slice none 0 0)).setCell ⟨pb, 3, none⟩ (.slice none 0 0)).setCell ⟨pb, 4, none⟩ (.slice none 0 0)).setCell ⟨eb, 0, none⟩ (.iface 112 (.pointer (some ⟨W.heap.size, 0, none⟩)))) := (((((hb.setCell h1 _).setCell h1 _).setCell h1 _).setCell h1 _).setCell h1 _).setCell h2 _
  have hce : ((((((W.setCell ⟨pb, 0, none⟩ (.string ⟨#[]⟩)).setCell ⟨pb, 1, none⟩ (.string ⟨#[]⟩)).setCell ⟨pb, 2, none⟩ (.slice none 0 0)).setCell ⟨pb, 3, none⟩ (.slice none 0 0)).setCell ⟨pb, 4, none⟩ (.slice none 0 0)).setCell ⟨eb, 0, none⟩ (.iface 112 (.pointer (some ⟨W.heap.size, 0, none⟩)))).cell? ⟨eb, 0, none⟩ = some (.iface 112 (.pointer (some ⟨W.heap.size, 0, none⟩))) := by
    rw [World.cell?_setCell_same _ _ _ (by rw [setC_blk _ _ _ _ _ _ hne, setC_blk _ _ _ _ _ _ hne, setC_blk _ _ _ _ _ _ hne, setC_blk _ _ _ _ _ _ hne, setC_blk _ _ _ _ _ _ hne]; exact he)]
  have hcp : ∀ j u, (((((W.setCell ⟨pb, 0, none⟩ (.string ⟨#[]⟩)).setCell ⟨pb, 1, none⟩ (.string ⟨#[]⟩)).setCell ⟨pb, 2, none⟩ (.slice none 0 0)).setCell ⟨pb, 3, none⟩ (.slice none 0 0)).setCell ⟨pb, 4, none⟩ (.slice none 0 0)).cell? ⟨pb, j, none⟩ = some u →
      ((((((W.setCell ⟨pb, 0, none⟩ (.string ⟨#[]⟩)).setCell ⟨pb, 1, none⟩ (.string ⟨#[]⟩)).setCell ⟨pb, 2, none⟩ (.slice none 0 0)).setCell ⟨pb, 3, none⟩ (.slice none 0 0)).setCell ⟨pb, 4, none⟩ (.slice none 0 0)).setCell ⟨eb, 0, none⟩ (.iface 112 (.pointer (some ⟨W.heap.size, 0, none⟩)))).cell? ⟨pb, j, none⟩ = some u := fun j u h => by
    rw [setC_blk _ _ _ _ _ _ (Ne.symm hne)]; exact h
  generalize ((((((W.setCell ⟨pb, 0, none⟩ (.string ⟨#[]⟩)).setCell ⟨pb, 1, none⟩ (.string ⟨#[]⟩)).setCell ⟨pb, 2, none⟩ (.slice none 0 0)).setCell ⟨pb, 3, none⟩ (.slice none 0 0)).setCell ⟨pb, 4, none⟩ (.slice none 0 0)).setCell ⟨eb, 0, none⟩ (.iface 112 (.pointer (some ⟨W.heap.size, 0, none⟩)))) = X at hs hbs hce hcp ⊢
  obtain ⟨_, _, hcl, _⟩ := newB X [.int .i64 1, .int .i64 0, .int .i64 n, .string ⟨#[]⟩] 117 0
  rw [hs] at hcl
  have past : ∀ g o u, g < W.heap.size → X.cell? ⟨g, o, none⟩ = some u → (X.alloc (.cells #[.int .i64 1, .int .i64 0, .int .i64 n, .string ⟨#[]⟩] 117)).cell? ⟨g, o, none⟩ = some u := fun g o u hg h => (World.cell?_alloc_past _ _ _ (by show g < X.heap.size; rw [hs]; exact hg)).trans h
  exact ⟨past _ _ _ hpl (hcp _ _ z0), past _ _ _ hpl (hcp _ _ z1), past _ _ _ hpl (hcp _ _ z2), past _ _ _ hpl (hcp _ _ z3), past _ _ _ hpl (hcp _ _ z4), past _ _ _ hel hce,
    ⟨hcl 0 _ rfl, hcl 1 _ rfl, hcl 2 _ rfl, hcl 3 _ rfl⟩, hbs.alloc (by rw [hs]; exact hb.size) _⟩
theorem pr_fault {s : ByteArray} {pb eb n : Nat} {w W Y : World} (h : Caught pb eb n w W Y) (hr : M.readS s.data.toList = .inl n) : PrPost s w (.returned (.tuple #[.agg #[.string ⟨#[]⟩, .string ⟨#[]⟩, .slice none 0 0, .slice none 0 0, .slice none 0 0], .iface 112 (.pointer (some ⟨W.heap.size, 0, none⟩))])) Y := by
  refine ⟨h.b, ?_⟩
  rw [hr]
  exact ⟨_, rfl, h.f⟩
abbrev read3 (w : World) (x y : Value) : World := ((w.alloc (.cells #[.string ⟨#[]⟩, .string ⟨#[]⟩, .slice none 0 0, .slice none 0 0, .slice none 0 0] 108)).alloc (.cells #[.nilIface] 67)).alloc (.cells #[x, y] 148)
theorem read3_is (w : World) (x y : Value) : (read3 w x y).heap.size = w.heap.size + 3 ∧ Below w.heap.size w (read3 w x y) ∧ (∀ j, j < 5 → ∃ u, (read3 w x y).cell? ⟨w.heap.size, j, none⟩ = some u) ∧ (∀ o, (read3 w x y).frozen? ⟨w.heap.size, o, none⟩ = false) ∧
    (read3 w x y).cell? ⟨w.heap.size + 1, 0, none⟩ = some .nilIface ∧ (read3 w x y).frozen? ⟨w.heap.size + 1, 0, none⟩ = false ∧
    (read3 w x y).cell? ⟨w.heap.size + 1 + 1, 0, none⟩ = some x ∧ (read3 w x y).cell? ⟨w.heap.size + 1 + 1, 1, none⟩ = some y ∧ ∀ o, (read3 w x y).frozen? ⟨w.heap.size + 1 + 1, o, none⟩ = false := by
  obtain ⟨a1, a2, a3, a4⟩ := newB w [.string ⟨#[]⟩, .string ⟨#[]⟩, .slice none 0 0, .slice none 0 0, .slice none 0 0] 108 0
  replace a1 : Below w.heap.size w (w.alloc (.cells #[.string ⟨#[]⟩, .string ⟨#[]⟩, .slice none 0 0, .slice none 0 0, .slice none 0 0] 108)) := a1
  replace a2 : (w.alloc (.cells #[.string ⟨#[]⟩, .string ⟨#[]⟩, .slice none 0 0, .slice none 0 0, .slice none 0 0] 108)).heap.size = w.heap.size + 1 := a2
  replace a3 : ∀ j u, [Value.string ⟨#[]⟩, .string ⟨#[]⟩, .slice none 0 0, .slice none 0 0, .slice none 0 0][j]? = some u → (w.alloc (.cells #[.string ⟨#[]⟩, .string ⟨#[]⟩, .slice none 0 0, .slice none 0 0, .slice none 0 0] 108)).cell? ⟨w.heap.size, j, none⟩ = some u := a3
  replace a4 : ∀ o, (w.alloc (.cells #[.string ⟨#[]⟩, .string ⟨#[]⟩, .slice none 0 0, .slice none 0 0, .slice none 0 0] 108)).frozen? ⟨w.heap.size, o, none⟩ = false := a4
  unfold read3
  generalize w.alloc (.cells #[.string ⟨#[]⟩, .string ⟨#[]⟩, .slice none 0 0, .slice none 0 0, .slice none 0 0] 108) = w1 at a1 a2 a3 a4 ⊢
  obtain ⟨b1, b2, b3, b4⟩ := newB w1 [.nilIface] 67 0
  replace b1 : Below w1.heap.size w1 (w1.alloc (.cells #[.nilIface] 67)) := b1
  replace b2 : (w1.alloc (.cells #[.nilIface] 67)).heap.size = w1.heap.size + 1 := b2
  replace b3 : (w1.alloc (.cells #[.nilIface] 67)).cell? ⟨w1.heap.size, 0, none⟩ = some .nilIface := b3 0 _ rfl
  replace b4 : (w1.alloc (.cells #[.nilIface] 67)).frozen? ⟨w1.heap.size, 0, none⟩ = false := b4 0
  generalize w1.alloc (.cells #[.nilIface] 67) = w2 at b1 b2 b3 b4 ⊢
  obtain ⟨d1, d2, d3, d4⟩ := newB w2 [x, y] 148 0
  replace d1 : Below w2.heap.size w2 (w2.alloc (.cells #[x, y] 148)) := d1
  replace d2 : (w2.alloc (.cells #[x, y] 148)).heap.size = w2.heap.size + 1 := d2
  replace d3 : ∀ j u, [x, y][j]? = some u → (w2.alloc (.cells #[x, y] 148)).cell? ⟨w2.heap.size, j, none⟩ = some u := d3
  replace d4 : ∀ o, (w2.alloc (.cells #[x, y] 148)).frozen? ⟨w2.heap.size, o, none⟩ = false := d4
  generalize w2.alloc (.cells #[x, y] 148) = w3 at d1 d2 d3 d4 ⊢
  rw [a2] at b3 b4 b1 b2
  rw [b2] at d1 d2 d3 d4
  have e13 : Below (w.heap.size + 1) w1 w3 := b1.trans (d1.mono (by omega))
  refine ⟨by omega, a1.trans (e13.mono (by omega)), fun j hj => ?_, fun o => (e13.frozen (p := ⟨w.heap.size, o, none⟩) (Nat.lt_succ_self _)).trans (a4 o), (d1.cell (p := ⟨w.heap.size + 1, 0, none⟩) (Nat.lt_succ_self _)).trans b3, (d1.frozen (p := ⟨w.heap.size + 1, 0, none⟩) (Nat.lt_succ_self _)).trans b4, d3 0 _ rfl, d3 1 _ rfl, d4⟩
  exact ⟨_, (e13.cell (p := ⟨w.heap.size, j, none⟩) (Nat.lt_succ_self _)).trans (a3 j _ (List.getElem?_eq_getElem (by simpa using hj)))⟩
set_option maxRecDepth 100000 in
set_option maxHeartbeats 2000000 in
theorem read_pLong (s : ByteArray) (w : World) (h : 300 < s.size) (hs : s.size ≤ 8192) : Calls Tryz.prog 55 #[.string s] w (PrPost s w) := by
  have hmf : ∀ (fn : Fn) (first cap : Array Value) (w : World), (Instr.makeFunc fn first cap).run Tryz.prog w = .ok (.func fn first cap) w := fun _ _ _ _ => rfl
  have cN := must_no
  have hd : decide ((s.size : Int) ≤ 300) = false := by simp; omega
  have HR : Hid (M.readS s.data.toList = .inl 0) := by
    show _ = _
    unfold M.readS
    rw [if_pos (by rw [len_data]; exact h)]
  obtain ⟨f1, f2, f3, f4, f5, f6, f7, f8, f9⟩ := read3_is w (.slice none 0 0) (.int .i64 0)
  have hC := caught_is w.heap.size (w.heap.size + 1) 0 w (read3 w (.slice none 0 0) (.int .i64 0)) f3 _ f5 (by omega) f2 (Nat.le_refl _) (by omega)
  have cD := catch_panicking (w.heap.size + 1 + 1) w.heap.size (w.heap.size + 1) 0 (read3 w (.slice none 0 0) (.int .i64 0)) [] f8 f3 f4 _ f5 f6 (by omega)
  go_enter_defers Tryz.func55, Tryz.ntmps55
  go_wp2_with (go_at_call 83; refine (cN _).mono ?_; rintro e w' ⟨rfl, rfl⟩)
  refine leaves_cons (f := 82) (args := #[.pointer (some ⟨w.heap.size + 1 + 1, 0, none⟩), .pointer (some ⟨w.heap.size, 0, none⟩), .pointer (some ⟨w.heap.size + 1, 0, none⟩)]) (by simp) (by simp [go_sem]) ?_
  refine cD.mono ?_
  rintro e u' w'' ⟨rfl, rfl, hw⟩
  have hC2 : Caught w.heap.size (w.heap.size + 1) 0 w (read3 w (.slice none 0 0) (.int .i64 0)) w'' := by rw [hw]; exact hC
  clear hw hC cD
  have z0 := hC2.c0
  have z1 := hC2.c1
  have z2 := hC2.c2
  have z3 := hC2.c3
  have z4 := hC2.c4
  have ze := hC2.ce
  simp [Leaves, settle, results, Tryz.results55, go_sem, z0, z1, z2, z3, z4, ze]
  have hfin := pr_fault hC2 HR.out
  rw [f1] at hfin
  exact hfin
end Go.Proofs.YtgnfknjopafngaaGreatDoor
namespace Go.Proofs
open Go.Shelf
def Tryz.laysM316_ren : Go.Shelf.Ren := ⟨fun | 316 => 124 | n => n, fun | 9 => 9 | 3 => 3 | 4 => 4 | 37 => 131 | 0 => 0 | 127 => 257 | 5 => 5 | n => n, fun | n => n⟩
theorem Tryz.laysM316 : Go.Proofs.LaysM.n316 Tryz.prog Tryz.laysM316_ren := {
  mixed := by kernel_rfl
  f316 := Tryz.func124.trans (congrArg some (by kernel_rfl))
  t0 := Tryz.underlying0
  a0 := Tryz.isAgg0
  z0 := Tryz.sizeOf0
  v0 := Tryz.zeroValue0
  t3 := Tryz.underlying3
  a3 := Tryz.isAgg3
  z3 := Tryz.sizeOf3
  v3 := Tryz.zeroValue3
  t4 := Tryz.underlying4
  a4 := Tryz.isAgg4
  z4 := Tryz.sizeOf4
  v4 := Tryz.zeroValue4
  t9 := Tryz.underlying9
  a9 := Tryz.isAgg9
  z9 := Tryz.sizeOf9
  v9 := Tryz.zeroValue9
  t37 := Tryz.underlying131
  a37 := Tryz.isAgg131
  z37 := Tryz.sizeOf131
  v37 := Tryz.zeroValue131
  t127 := Tryz.underlying257
  a127 := Tryz.isAgg257
  z127 := Tryz.sizeOf257
  v127 := Tryz.zeroValue257
  t5 := Tryz.underlying5
  a5 := Tryz.isAgg5
  z5 := Tryz.sizeOf5
  v5 := Tryz.zeroValue5
  i0 := by kernel_rfl
  i3 := by kernel_rfl
  i4 := by kernel_rfl
  i5 := by kernel_rfl
  i9 := by kernel_rfl
  i37 := by kernel_rfl
  i127 := by kernel_rfl }
open Go.RowKit in
theorem Tryz.stringslite_Clone (s : ByteArray) (w : World) (hlim : s.size ≤ 281474976710656) :
    Calls Tryz.prog 124 #[.string s] w fun e w' => e = .returned (.string s) ∧ Below w.heap.size w w' := Any.stringslite_Clone Tryz.laysM316 s w hlim
def Tryz.laysNm216_ren : Go.Shelf.Ren := ⟨fun | 16 => 192 | n => n, fun | 24 => 43 | 9 => 9 | 4 => 4 | n => n, fun | n => n⟩
theorem Tryz.laysNm216 : Go.Proofs.Lays2.n16 Tryz.prog Tryz.laysNm216_ren := {
  mixed := by kernel_rfl
  f16 := Tryz.func192.trans (congrArg some (by kernel_rfl))
  t4 := Tryz.underlying4
  a4 := Tryz.isAgg4
  z4 := Tryz.sizeOf4
  v4 := Tryz.zeroValue4
  t9 := Tryz.underlying9
  a9 := Tryz.isAgg9
  z9 := Tryz.sizeOf9
  v9 := Tryz.zeroValue9
  t24 := Tryz.underlying43
  a24 := Tryz.isAgg43
  z24 := Tryz.sizeOf43
  v24 := Tryz.zeroValue43
  i9 := by kernel_rfl }
open Go.RowKit Go.Lib in
theorem Tryz.slices_Clone_string (b off n c : Nat) (zs : List ByteArray) (w : World) (hz : n ≤ zs.length) (hbig : n * 16 ≤ 140737488355328) (hc : ∀ j, j < zs.length → w.cell? ⟨b, off + j, none⟩ = some (.string (zs.getD j ByteArray.empty))) :
    Calls Tryz.prog 192 #[.slice (some ⟨b, off, none⟩) n c] w fun e w' => ∃ v', e = .returned v' ∧ w'.ownsRow w.heap.size 9 1 v' n ((zs.take n).map (Value.string)) ∧ v' ≠ .slice none 0 0 ∧ Below w.heap.size w w' := Any.slices_Clone_string Tryz.laysNm216 b off n c zs w hz hbig hc
open Go.RowKit Go.Lib in
theorem Tryz.slices_Clone_string_nil (n c : Nat) (w : World) :
    Calls Tryz.prog 192 #[.slice none n c] w fun e w' => e = .returned (.slice none 0 0) ∧ w' = w := Any.slices_Clone_string_nil Tryz.laysNm216 n c w
end Go.Proofs
namespace Go.Proofs.YtgnfknjopafngaaGreatDoor
open Go.RowKit
set_option maxRecDepth 100000 in
theorem clone_lib (s : ByteArray) (w : World) (h : s.size ≤ 1000000) : Calls Tryz.prog 84 #[.string s] w fun e w' => e = .returned (.string s) ∧ Below w.heap.size w w' := by
  have c := Tryz.stringslite_Clone s w (by omega)
  go_enter Tryz.func84, Tryz.ntmps84
  go_wp2_with (go_at_call 124; refine c.mono ?_; rintro e w' ⟨rfl, hB⟩)
  go_ret
  exact ⟨rfl, hB⟩
end Go.Proofs.YtgnfknjopafngaaGreatDoor
namespace Go.Proofs.YtgnfknjopafngaaGreatDoor
open Go.RowKit
set_option maxRecDepth 100000 in
set_option maxHeartbeats 4000000 in
theorem read_pShort (s : ByteArray) (w : World) (hw : MaxIs w) (h : s.size ≤ 300) : Calls Tryz.prog 55 #[.string s] w (PrPost s w) := by
  have hmf : ∀ (fn : Fn) (first cap : Array Value) (w : World), (Instr.makeFunc fn first cap).run Tryz.prog w = .ok (.func fn first cap) w := fun _ _ _ _ => rfl
  have cY := must_ok
  have hd : (s.size : Int) ≤ 300 := by omega
  obtain ⟨A, hA⟩ := bytes_ex (Lib.trimSuffix s.data.toList [10])
  have hAs : A.size ≤ s.size := by have := trimS_len' s.data.toList [10]; have h := len_data s; rw [size_of hA]; omega
  obtain ⟨ps, hps⟩ := bytes_list (cutB A ⟨#[10]⟩)
  obtain ⟨f1, f2, f3, f4, f5, f6, f7, f8, f9⟩ := read3_is w (.slice none 0 0) (.int .i64 0)
  have cT := fun wx => trim_lib s ⟨#[10]⟩ A wx (by omega) hA.symm
  have cC := clone_lib s (read3 w (.slice none 0 0) (.int .i64 0)) (by omega)
  replace cY : ∀ wx, Calls Tryz.prog 83 #[.bool true] wx fun e w' => e = .returned (.tuple #[]) ∧ wx = w' := fun wx => (cY wx).mono fun e w' h => ⟨h.1, h.2.symm⟩
  replace cT : ∀ wx, Calls Tryz.prog 86 #[.string s, .string ⟨#[10]⟩] wx fun e w' => e = .returned (.string A) ∧ wx = w' := fun wx => (cT wx).mono fun e w' h => ⟨h.1, h.2.symm⟩
  rw [f1] at cC
  go_enter_defers Tryz.func55, Tryz.ntmps55
  go_wp2_with (first | (go_at_call 83; refine (cY _).mono ?_; rintro e w' ⟨rfl, rfl⟩) | (go_at_call 84; refine cC.mono ?_; rintro e wc ⟨rfl, hBc⟩) | (go_at_call 86; fail))
  have HBc : Hid (Below (w.heap.size + 3) (read3 w (.slice none 0 0) (.int .i64 0)) wc) := hBc
  have hcs : w.heap.size + 3 ≤ wc.heap.size := by have := hBc.size; rw [f1] at this; exact this
  have m3 : ∀ j, j < 5 → ∃ u, wc.cell? ⟨w.heap.size, j, none⟩ = some u := fun j hj => by
    obtain ⟨u, hu⟩ := f3 j hj
    exact ⟨u, (hBc.cell (p := ⟨w.heap.size, j, none⟩) (by show w.heap.size < w.heap.size + 3; omega)).trans hu⟩
  have m4 : ∀ o, wc.frozen? ⟨w.heap.size, o, none⟩ = false := fun o => (hBc.frozen (p := ⟨w.heap.size, o, none⟩) (by show w.heap.size < w.heap.size + 3; omega)).trans (f4 o)
  have m5 : wc.cell? ⟨w.heap.size + 1, 0, none⟩ = some .nilIface := (hBc.cell (p := ⟨w.heap.size + 1, 0, none⟩) (by show w.heap.size + 1 < w.heap.size + 3; omega)).trans f5
  have m6 : wc.frozen? ⟨w.heap.size + 1, 0, none⟩ = false := (hBc.frozen (p := ⟨w.heap.size + 1, 0, none⟩) (by show w.heap.size + 1 < w.heap.size + 3; omega)).trans f6
  have m7 : wc.cell? ⟨w.heap.size + 1 + 1, 0, none⟩ = some (.slice none 0 0) := (hBc.cell (p := ⟨w.heap.size + 1 + 1, 0, none⟩) (by show w.heap.size + 1 + 1 < w.heap.size + 3; omega)).trans f7
  have m8 : wc.cell? ⟨w.heap.size + 1 + 1, 1, none⟩ = some (.int .i64 0) := (hBc.cell (p := ⟨w.heap.size + 1 + 1, 1, none⟩) (by show w.heap.size + 1 + 1 < w.heap.size + 3; omega)).trans f8
  have m9 : ∀ o, wc.frozen? ⟨w.heap.size + 1 + 1, o, none⟩ = false := fun o => (hBc.frozen (p := ⟨w.heap.size + 1 + 1, o, none⟩) (by show w.heap.size + 1 + 1 < w.heap.size + 3; omega)).trans (f9 o)
  have hBw : Below w.heap.size w wc := f2.trans (hBc.mono (by omega))
  have cS := split_lib A ⟨#[10]⟩ ps wc (hw.below hBw) (by omega) (by decide) hps
  obtain ⟨d1, d2, d3, d4⟩ := newB wc (ps.map Value.string) 9 0
  have HA : Hid (Lib.trimSuffix s.data.toList [10] = A.data.toList) := hA.symm
  have HP : Hid (cutB A ⟨#[10]⟩ = ps.map fun q => q.data.toList) := hps
  generalize hWa : wc.alloc (.cells (ps.map Value.string).toArray 9) = wa at cS
  have hWa' : (wc.alloc (.cells (ps.map Value.string).toArray 9)).drewN 0 = wa := hWa
  rw [hWa'] at d1 d2 d3
  clear hWa' d4 hWa
  replace cS : Calls Tryz.prog 85 #[.string A, .string ⟨#[10]⟩] wc fun e w' => e = .returned (.slice (some ⟨wc.heap.size, 0, none⟩) ps.length ps.length) ∧ wa = w' := cS.mono fun e w' h => ⟨h.1, h.2.symm⟩
  have n7 : wa.cell? ⟨w.heap.size + 1 + 1, 0, none⟩ = some (.slice none 0 0) := (d1.cell (p := ⟨w.heap.size + 1 + 1, 0, none⟩) (by show w.heap.size + 1 + 1 < wc.heap.size; omega)).trans m7
  have n8 : wa.cell? ⟨w.heap.size + 1 + 1, 1, none⟩ = some (.int .i64 0) := (d1.cell (p := ⟨w.heap.size + 1 + 1, 1, none⟩) (by show w.heap.size + 1 + 1 < wc.heap.size; omega)).trans m8
  have n9 : ∀ o, wa.frozen? ⟨w.heap.size + 1 + 1, o, none⟩ = false := fun o => (d1.frozen (p := ⟨w.heap.size + 1 + 1, o, none⟩) (by show w.heap.size + 1 + 1 < wc.heap.size; omega)).trans (m9 o)
  clear f3 f4 f5 f6 f7 f8 f9 hBc hA hps cC
  go_wp2_with (first | (go_at_call 86; refine (cT _).mono ?_; rintro e w' ⟨rfl, rfl⟩) | (go_at_call 85; refine cS.mono ?_; rintro e w' ⟨rfl, rfl⟩))
  generalize hW4 : (wa.setCell ⟨w.heap.size + 1 + 1, 0, none⟩ (.slice (some ⟨wc.heap.size, 0, none⟩) ps.length ps.length)).setCell ⟨w.heap.size + 1 + 1, 1, none⟩ (.int .i64 1) = W4
  have s4 : W4.heap.size = wc.heap.size + 1 := by rw [← hW4, setC_size, setC_size]; exact d2
  have o4 : ∀ g o, g ≠ w.heap.size + 1 + 1 → g < wc.heap.size → W4.cell? ⟨g, o, none⟩ = wc.cell? ⟨g, o, none⟩ := fun g o hg hlt => by
    rw [← hW4, setC_blk _ _ _ _ _ _ hg, setC_blk _ _ _ _ _ _ hg]
    exact d1.cell (p := ⟨g, o, none⟩) hlt
  have o5 : ∀ g o, g < wc.heap.size → W4.frozen? ⟨g, o, none⟩ = wc.frozen? ⟨g, o, none⟩ := fun g o hlt => by
    rw [← hW4, World.frozen?_setCell, World.frozen?_setCell]
    exact d1.frozen (p := ⟨g, o, none⟩) hlt
  have hB4 : Below w.heap.size w W4 := by
    rw [← hW4]
    exact ((hBw.trans (d1.mono hBw.size)).setCell (show w.heap.size ≤ w.heap.size + 1 + 1 by omega) _).setCell (show w.heap.size ≤ w.heap.size + 1 + 1 by omega) _
  have hpn : ps.length ≤ 301 := by
    have e : (cutB A ⟨#[10]⟩).length = ps.length := by rw [HP.out]; simp
    have h2 : (cutB A ⟨#[10]⟩).length ≤ A.data.toList.length + 1 := (M.cutS_len A.data.toList [10]).2
    have h3 := len_data A
    omega
  have hR : RAt W4 (w.heap.size + 1 + 1) wc.heap.size ps 0 := by
    refine ⟨?_, ?_, fun o => (o5 _ o (by omega)).trans (m9 o), fun j hj => ?_, by omega, by omega, Nat.zero_le _⟩
    · rw [← hW4, World.cell?_setCell_other _ _ _ _ (by simp), World.cell?_setCell_same _ _ _ n7]
    · rw [← hW4, World.cell?_setCell_same _ _ _ (by rw [World.cell?_setCell_other _ _ _ _ (by simp)]; exact n8)]
      rfl
    · rw [← hW4, setC_blk _ _ _ _ _ _ (by omega), setC_blk _ _ _ _ _ _ (by omega)]
      exact d3 j _ (by simp [hj])
  have hgl : 1 < w.heap.size + 1 + 1 := by have := hw.lt; omega
  have cR := readPackage_any W4 (w.heap.size + 1 + 1) wc.heap.size ps hR (hw.below hB4) hgl (by omega) (fun q hq => by have := piece_size HP.out q hq; omega)
  have HR : Hid (M.readS s.data.toList = (match titlesC (ps.map fun q => q.data.toList) M.emptyPk with | .inl n => .inl n | .inr p => .inr { p with files := M.sortF p.files })) := by
    show _ = _
    rw [read_is _ (by rw [len_data]; exact h), HA.out, show M.cutS A.data.toList [10] = _ from HP.out]
    cases titlesC (ps.map fun q => q.data.toList) M.emptyPk <;> rfl
  have p3 : ∀ j, j < 5 → ∃ u, W4.cell? ⟨w.heap.size, j, none⟩ = some u := fun j hj => by
    obtain ⟨u, hu⟩ := m3 j hj
    exact ⟨u, (o4 _ _ (by omega) (by omega)).trans hu⟩
  have p4 : ∀ o, W4.frozen? ⟨w.heap.size, o, none⟩ = false := fun o => (o5 _ o (by omega)).trans (m4 o)
  have p5 : W4.cell? ⟨w.heap.size + 1, 0, none⟩ = some .nilIface := (o4 _ _ (by omega) (by omega)).trans m5
  have p6 : W4.frozen? ⟨w.heap.size + 1, 0, none⟩ = false := (o5 _ _ (by omega)).trans m6
  have hlo : w.heap.size ≤ W4.heap.size := hB4.size
  clear d1 d2 d3 n7 n8 n9 m3 m4 m5 m6 m7 m8 m9 o4 o5 hR f1 f2 cS cT HBc hBw HA HP
  refine cR.mono ?_
  rintro e w5 ⟨hB5, hm⟩
  have r3 : ∀ j, j < 5 → ∃ u, w5.cell? ⟨w.heap.size, j, none⟩ = some u := fun j hj => by
    obtain ⟨u, hu⟩ := p3 j hj
    exact ⟨u, (hB5.cell (p := ⟨w.heap.size, j, none⟩) (by show w.heap.size < w.heap.size + 1 + 1; omega)).trans hu⟩
  have r4 : ∀ o, w5.frozen? ⟨w.heap.size, o, none⟩ = false := fun o => (hB5.frozen (p := ⟨w.heap.size, o, none⟩) (by show w.heap.size < w.heap.size + 1 + 1; omega)).trans (p4 o)
  have r5 : w5.cell? ⟨w.heap.size + 1, 0, none⟩ = some .nilIface := (hB5.cell (p := ⟨w.heap.size + 1, 0, none⟩) (Nat.lt_succ_self _)).trans p5
  have r6 : w5.frozen? ⟨w.heap.size + 1, 0, none⟩ = false := (hB5.frozen (p := ⟨w.heap.size + 1, 0, none⟩) (Nat.lt_succ_self _)).trans p6
  have hB6 : Below w.heap.size w w5 := hB4.trans (hB5.mono (by omega))
  clear p3 p4 p5 p6 hB5 hB4 cR hW4 cY hmf
  cases ht : titlesC (ps.map fun q => q.data.toList) M.emptyPk with
  | inl n =>
    rw [ht] at hm
    obtain ⟨rfl, hc⟩ := hm
    have HE : Hid (M.readS s.data.toList = .inl n) := by show _ = _; rw [HR.out, ht]
    have hC := caught_is w.heap.size (w.heap.size + 1) n w w5 r3 _ r5 (by omega) hB6 (Nat.le_refl _) (by omega)
    have cD := catch_panicking (w.heap.size + 1 + 1) w.heap.size (w.heap.size + 1) n w5 [] hc r3 r4 _ r5 r6 (by omega)
    clear ht HR
    go_wp2
    refine leaves_cons (f := 82) (args := #[.pointer (some ⟨w.heap.size + 1 + 1, 0, none⟩), .pointer (some ⟨w.heap.size, 0, none⟩), .pointer (some ⟨w.heap.size + 1, 0, none⟩)]) (by simp) (by simp [go_sem]) ?_
    refine cD.mono ?_
    rintro e u' w'' ⟨rfl, rfl, hw2⟩
    have hC2 : Caught w.heap.size (w.heap.size + 1) n w w5 w'' := by rw [hw2]; exact hC
    clear hw2 hC cD
    have z0 := hC2.c0
    have z1 := hC2.c1
    have z2 := hC2.c2
    have z3 := hC2.c3
    have z4 := hC2.c4
    have ze := hC2.ce
    simp [Leaves, settle, results, Tryz.results55, go_sem, z0, z1, z2, z3, z4, ze]
    exact pr_fault hC2 HE.out
  | inr p =>
    rw [ht] at hm
    obtain ⟨v, rfl, hv⟩ := hm
    have HE : Hid (M.readS s.data.toList = .inr { p with files := M.sortF p.files }) := by show _ = _; rw [HR.out, ht]
    have HV : Hid (PkFrom W4.heap.size w5 { p with files := M.sortF p.files } v) := hv
    obtain ⟨nv, bv, fv, ev, hn1, hb1, hf1⟩ := hv
    obtain ⟨an, cn, en⟩ := hn1.form
    obtain ⟨ab, cb, eb⟩ := hb1.form
    obtain ⟨af, cf, ef⟩ := hf1.form
    clear ht HR hn1 hb1 hf1
    subst en eb ef ev
    obtain ⟨v0, e0⟩ := r3 0 (by decide)
    obtain ⟨v1, e1⟩ := r3 1 (by decide)
    obtain ⟨v2, e2⟩ := r3 2 (by decide)
    obtain ⟨v3, e3⟩ := r3 3 (by decide)
    obtain ⟨v4, e4⟩ := r3 4 (by decide)
    have hne : ¬ w.heap.size + 1 = w.heap.size := by omega
    go_wp2
    refine leaves_cons (f := 82) (args := #[.pointer (some ⟨w.heap.size + 1 + 1, 0, none⟩), .pointer (some ⟨w.heap.size, 0, none⟩), .pointer (some ⟨w.heap.size + 1, 0, none⟩)]) (by simp) (by simp [go_sem]) ?_
    refine (catch_idle ⟨w.heap.size + 1 + 1, 0, none⟩ ⟨w.heap.size, 0, none⟩ ⟨w.heap.size + 1, 0, none⟩ _).mono ?_
    rintro e u' w'' ⟨rfl, rfl, hw2⟩
    obtain ⟨y0, y1, y2, y3, y4⟩ := set5 w5 w.heap.size (.string ⟨p.name.toArray⟩) (.string ⟨p.ver.toArray⟩) (.slice an p.needs.length cn) (.slice ab p.bars.length cb) (.slice af (M.sortF p.files).length cf) r3
    have hne2 : w.heap.size ≠ w.heap.size + 1 := by omega
    have hk : ∀ j u, (((((w5.setCell ⟨w.heap.size, 0, none⟩ (.string ⟨p.name.toArray⟩)).setCell ⟨w.heap.size, 1, none⟩ (.string ⟨p.ver.toArray⟩)).setCell ⟨w.heap.size, 2, none⟩ (.slice an p.needs.length cn)).setCell ⟨w.heap.size, 3, none⟩ (.slice ab p.bars.length cb)).setCell ⟨w.heap.size, 4, none⟩ (.slice af (M.sortF p.files).length cf)).cell? ⟨w.heap.size, j, none⟩ = some u → w''.cell? ⟨w.heap.size, j, none⟩ = some u := fun j u hu => by rw [hw2, setC_blk _ _ _ _ _ _ hne2]; exact hu
    have z0 := hk _ _ y0
    have z1 := hk _ _ y1
    have z2 := hk _ _ y2
    have z3 := hk _ _ y3
    have z4 := hk _ _ y4
    have ze : w''.cell? ⟨w.heap.size + 1, 0, none⟩ = some .nilIface := by
      rw [hw2, World.cell?_setCell_same _ _ _ (by rw [setC_blk _ _ _ _ _ _ hne, setC_blk _ _ _ _ _ _ hne, setC_blk _ _ _ _ _ _ hne, setC_blk _ _ _ _ _ _ hne, setC_blk _ _ _ _ _ _ hne]; exact r5)]
    have hBf : Below w.heap.size w w'' := by
      rw [hw2]
      have hle := Nat.le_refl w.heap.size
      exact (((((hB6.setCell hle _).setCell hle _).setCell hle _).setCell hle _).setCell hle _).setCell (show w.heap.size ≤ w.heap.size + 1 by omega) _
    have hPf : PkFrom W4.heap.size w'' { p with files := M.sortF p.files } (.agg #[.string ⟨p.name.toArray⟩, .string ⟨p.ver.toArray⟩, .slice an p.needs.length cn, .slice ab p.bars.length cb, .slice af (M.sortF p.files).length cf]) := by
      rw [hw2]
      have h1 : w.heap.size < W4.heap.size := by omega
      have h2 : w.heap.size + 1 < W4.heap.size := by omega
      exact (((((HV.out.set h1).set h1).set h1).set h1).set h1).set h2
    clear hw2 hk y0 y1 y2 y3 y4 e0 e1 e2 e3 e4 r5 r4 r6
    simp [Leaves, settle, results, Tryz.results55, go_sem, z0, z1, z2, z3, z4, ze]
    refine ⟨hBf, ?_⟩
    rw [HE.out]
    exact ⟨_, rfl, hPf.lower hlo⟩
theorem pRead_any (s : ByteArray) (w : World) (hw : MaxIs w) (hs : s.size ≤ 8192) : Calls Tryz.prog 55 #[.string s] w (PrPost s w) := by
  by_cases h : s.size ≤ 300
  · exact read_pShort s w hw h
  · exact read_pLong s w (by omega) hs
end Go.Proofs.YtgnfknjopafngaaGreatDoor
