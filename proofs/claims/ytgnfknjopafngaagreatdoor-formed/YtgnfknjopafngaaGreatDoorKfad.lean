import Derived.Test.YtgnfknjopafngaaGreatDoorKfac
import Derived.Test.YtgnfknjopafngaaGreatDoorKfv
namespace Go.Proofs.YtgnfknjopafngaaGreatDoor
open Go.RowKit Go.Maps
def sizeAt (l : List M.Pk) (q : KV) : Nat := match l.find? (fun p => p.name == q.1) with
  | some p => (M.printS p).length
  | none => 0
theorem sizeAt_is {l : List M.Pk} (ha : M.Apart l) {p : M.Pk} (hp : p ∈ l) (v : Value) : sizeAt l (p.name, v) = (M.printS p).length := by
  unfold sizeAt
  cases h : l.find? (fun q => q.name == (p.name, v).1) with
  | none =>
    have := List.find?_eq_none.1 h p hp
    simp at this
  | some q =>
    have h1 := List.find?_some h
    have e := ha.eq (List.mem_of_find?_eq_some h) hp (by simpa using h1)
    rw [e]
theorem sizes_all {l : List M.Pk} (ha : M.Apart l) (f : M.Pk → Value) : ((l.map fun p => (p.name, f p)).map (sizeAt l)).sum = M.sizeS l := by
  unfold M.sizeS
  rw [List.map_map]
  congr 1
  apply List.map_congr_left
  intro p hp
  exact sizeAt_is ha hp _
set_option maxRecDepth 100000 in
set_option maxHeartbeats 4000000 in
theorem qsize_any (b : Nat) (l : List M.Pk) (w : World) (hl : SetIn w b l) (hs : ∀ p ∈ l, ReadP p) (hz : M.sizeS l ≤ 1000000000) :
    Calls Tryz.prog 80 #[.map (some b)] w fun e w' => e = .returned (.int .i64 (M.sizeS l)) ∧ Below w.heap.size w w' := by
  have HA : Hid (M.Apart l) := hl.apart
  have HS : Hid (∀ p ∈ l, ReadP p) := hs
  have hbl := hl.lt
  obtain ⟨f, m1, v1⟩ := hl
  have HV : Hid (∀ p ∈ l, PkVal w p (f p)) := v1
  have HSh : Hid (∀ q ∈ l.map (fun p => (p.name, f p)), PkShape q.2) := fun q hq => by
    obtain ⟨p, hp, rfl⟩ := List.mem_map.1 hq
    exact (v1 p hp).shape
  have HPA : Hid (((l.map fun p => (p.name, f p)).map (sizeAt l)).sum = M.sizeS l) := sizes_all HA.out f
  generalize hL : (l.map fun p => (p.name, f p)) = L at m1 HSh HPA
  have HL : Hid ((l.map fun p => (p.name, f p)) = L) := hL
  have HZ : Hid (M.sizeS l ≤ 1000000000) := hz
  generalize hSz : M.sizeS l = Z at HPA HZ ⊢
  clear v1 hs hL hz hSz
  go_enter Tryz.func80, Tryz.ntmps80
  go_wp2_with (first | (at_range; refine wpList_range_str rfl _ rfl Tryz.underlying9 setMap b L rfl m1 ?_; intro w0 hrg0 hg0 hs0) | go_in)
  go_frame
  have hB0 : Below w.heap.size w w0 := (Below.refl _ w).grown hg0 (Nat.le_refl _) (fun j hj => by cases hj)
  go_loopw [3, 5] (fun c _ wr => ∃ (todo : List KV) (cnt N : Nat), c = .int .i64 N ∧ Ranging Tryz.prog 9 wr b w.heap.size L todo cnt ∧ Hid (N + (todo.map (sizeAt l)).sum = Z) ∧ Below w.heap.size w wr) (fun _ _ wr => wr.rangeLeft b w.heap.size)
  case atStart => exact ⟨L, _, 0, rfl, hrg0, by show _ = _; rw [HPA.out]; omega, hB0⟩
  case round =>
    obtain ⟨todo, cnt, N, rfl, hrg, HN, hBr⟩ := hrel
    go_wp2_with (first | (at_next; refine wpList_next_pk rfl _ rfl Tryz.underlying9 b w.heap.size L todo cnt rfl hrg HSh.out ?_ ?_) | go_in)
    · intro hc0 ht0
      have HF : Hid (N = Z) := by
        show _ = _
        have := HN.out
        rw [ht0] at this
        simpa using this
      clear hc0 ht0
      go_wp2
      go_ret
      refine ⟨?_, hBr⟩
      rw [← HF.out]
      rfl
    · intro k x y x1 n1 c1 x2 n2 c2 x3 n3 c3 todo' w' cnt' hks hperm hrg' hlt hg' hs' hen
      have hmem : (k.data.toList, Value.agg #[.string x, .string y, .slice x1 n1 c1, .slice x2 n2 c2, .slice x3 n3 c3]) ∈ L := by
        obtain ⟨_, _, _, _, _, _, _, h4⟩ := hrg
        exact ((h4 _).1 (hperm.mem_iff.2 List.mem_cons_self)).1
      obtain ⟨p, hp, hpe⟩ : ∃ p ∈ l, (p.name, f p) = (k.data.toList, Value.agg #[.string x, .string y, .slice x1 n1 c1, .slice x2 n2 c2, .slice x3 n3 c3]) := by
        rw [← HL.out] at hmem
        obtain ⟨p, hp, e⟩ := List.mem_map.1 hmem
        exact ⟨p, hp, e⟩
      have hpn : p.name = k.data.toList := congrArg Prod.fst hpe
      have hpv : f p = Value.agg #[.string x, .string y, .slice x1 n1 c1, .slice x2 n2 c2, .slice x3 n3 c3] := congrArg Prod.snd hpe
      have HN1 : Hid (N + (M.printS p).length + (todo'.map (sizeAt l)).sum = Z) := by
        show _ = _
        have := HN.out
        rw [(hperm.map (sizeAt l)).sum_nat, List.map_cons, List.sum_cons, ← hpn, sizeAt_is HA.out hp] at this
        omega
      have hBw' : Below w.heap.size w w' := hBr.grown hg' hBr.size (fun j hj => by cases hj; omega)
      generalize hW2 : w'.alloc (.cells #[.string x, .string y, .slice x1 n1 c1, .slice x2 n2 c2, .slice x3 n3 c3] 108) = W2
      have hga : w'.grownBy W2 none := by rw [← hW2]; exact World.grownBy_alloc w' _ none
      have hrg2 := hrg'.kept hga (by simp) (by simp)
      have hBw2 : Below w.heap.size w W2 := hBw'.grown hga hBw'.size (fun j hj => by cases hj)
      have hv2 : PkVal W2 p (.agg #[.string x, .string y, .slice x1 n1 c1, .slice x2 n2 c2, .slice x3 n3 c3]) := by
        rw [← hpv]
        exact (HV.out p hp).below hBw2
      have cO := oneForm_any p _ W2 hv2 (HS.out p hp).short
      have hnw : ∀ i u, [Value.string x, .string y, .slice x1 n1 c1, .slice x2 n2 c2, .slice x3 n3 c3][i]? = some u → W2.cell? ⟨w'.heap.size, i, none⟩ = some u := fun i u hu => by rw [← hW2]; exact new_at w' _ _ i u hu
      have q0 : W2.cell? ⟨w'.heap.size, 0, none⟩ = some (.string x) := hnw 0 _ rfl
      have q1 : W2.cell? ⟨w'.heap.size, 1, none⟩ = some (.string y) := hnw 1 _ rfl
      have q2 : W2.cell? ⟨w'.heap.size, 2, none⟩ = some (.slice x1 n1 c1) := hnw 2 _ rfl
      have q3 : W2.cell? ⟨w'.heap.size, 3, none⟩ = some (.slice x2 n2 c2) := hnw 3 _ rfl
      have q4 : W2.cell? ⟨w'.heap.size, 4, none⟩ = some (.slice x3 n3 c3) := hnw 4 _ rfl
      have hNz : N + (M.printS p).length ≤ 1000000000 := by have := HN1.out; have := HZ.out; omega
      clear hperm hmem HN hs' hpe hpv hpn hv2 hnw hga
      go_wp2_with fail
      refine cO.mono ?_
      rintro e w3 ⟨T, rfl, hT, hB3⟩
      have hTs : T.size = (M.printS p).length := by rw [← hT]; exact (len_data T).symm
      have hrg3 := hrg2.below hB3
      have hB4 : Below w.heap.size w w3 := bt hBw2 hB3
      have HN2 : Hid (N + T.size + (todo'.map (sizeAt l)).sum = Z) := by show _ = _; rw [hTs]; exact HN1.out
      have hNt : N + T.size ≤ 1000000000 := by rw [hTs]; exact hNz
      have hre : w3.rangeLeft b w.heap.size < wr.rangeLeft b w.heap.size := by rw [hrg3.left_eq, hrg.left_eq]; exact hlt
      clear hT hTs hNz HN1 hrg2 hrg' cO q0 q1 q2 q3 q4 hW2 hen hBw2 hB3 hg' hlt
      go_wp2
      refine ⟨⟨todo', cnt', N + T.size, by go_num, hrg3, HN2, hB4⟩, hre⟩
end Go.Proofs.YtgnfknjopafngaaGreatDoor
