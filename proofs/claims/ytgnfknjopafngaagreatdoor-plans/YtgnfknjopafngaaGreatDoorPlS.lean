import Derived.Test.YtgnfknjopafngaaGreatDoorPlR
/-
  PURE: one after another those that wait for none: the program's way (counts, a rising list) and the document's give the same order.
-/
namespace Go.Proofs.YtgnfknjopafngaaGreatDoor
open M

structure Kahn (there fresh left : List Pk) (done ready : List (List UInt8)) (c : List UInt8 → Nat) : Prop where
  sub : ∀ p ∈ left, p ∈ fresh
  apart : Apart fresh
  aleft : Apart left
  named : ∀ p ∈ fresh, p.name ≠ []
  gone : ∀ p ∈ fresh, p ∉ left → c p.name = 0 ∧ ∀ q ∈ left, waitsS p q there = false
  cnt : ∀ p ∈ left, c p.name = waitN left there p
  rising : Rising ready
  free : ∀ x, x ∈ ready ↔ ∃ p ∈ left, Free left there p ∧ x = p.name
  order : orderS there fresh.length fresh [] = orderS there left.length left done
def insAll (ys r : List (List UInt8)) : List (List UInt8) := ys.foldl (fun r y => insS y r) r
theorem insAll_mem (x : List UInt8) : ∀ (ys r : List (List UInt8)), x ∈ insAll ys r ↔ x ∈ ys ∨ x ∈ r
  | [], r => by simp [insAll]
  | y :: ys, r => by
    have := insAll_mem x ys (insS y r)
    unfold insAll at this ⊢
    rw [List.foldl_cons, this, ins_mem, List.mem_cons]
    constructor
    · rintro (h | h | h)
      · exact .inl (.inr h)
      · exact .inl (.inl h)
      · exact .inr h
    · rintro ((h | h) | h)
      · exact .inr (.inl h)
      · exact .inl h
      · exact .inr (.inr h)
theorem insAll_rising : ∀ (ys r : List (List UInt8)), Rising r → ys.Nodup → (∀ y ∈ ys, y ∉ r) → Rising (insAll ys r)
  | [], _, hr, _, _ => hr
  | y :: ys, r, hr, hn, hd => by
    have hn' := List.nodup_cons.1 hn
    refine insAll_rising ys (insS y r) (ins_rising y r hr (hd y (by simp))) hn'.2 (fun z hz h => ?_)
    rcases (ins_mem y z r).1 h with rfl | h
    · exact hn'.1 hz
    · exact hd z (by simp [hz]) h
theorem Kahn.start {there fresh : List Pk} {ready : List (List UInt8)} {c : List UInt8 → Nat} (ha : Apart fresh) (hn : ∀ p ∈ fresh, p.name ≠ []) (hc : ∀ p ∈ fresh, c p.name = waitN fresh there p) (hr : Rising ready)
    (hf : ∀ x, x ∈ ready ↔ ∃ p ∈ fresh, Free fresh there p ∧ x = p.name) : Kahn there fresh fresh [] ready c :=
  ⟨fun _ h => h, ha, ha, hn, fun _ hp h => absurd hp h, hc, hr, hf, rfl⟩
theorem Kahn.step {there fresh left : List Pk} {done r : List (List UInt8)} {n : List UInt8} {c : List UInt8 → Nat} {B : List (List UInt8)} (h : Kahn there fresh left done (n :: r) c) (hnd : B.Nodup)
    (hB : ∀ x, x ∈ B ↔ ∃ p ∈ fresh, ∃ q ∈ fresh, p.name = x ∧ q.name = n ∧ waitsS p q there = true) :
    (∀ x ∈ B, 1 ≤ c x) ∧ Kahn there fresh (left.filter fun p => p.name != n) (done ++ [n]) (insAll (freedS c B) r) (less1 c B) := by
  obtain ⟨q, hq, hqf, hqn⟩ := (h.free n).1 (by simp)
  have hqF := h.sub q hq
  have hr' := List.pairwise_cons.1 h.rising
  have hnr : n ∉ r := (List.nodup_cons.1 h.rising.nodup).1
  -- who waits for it
  have hB' : ∀ p ∈ fresh, p.name ∈ B ↔ waitsS p q there = true := fun p hp => by
    rw [hB]
    constructor
    · rintro ⟨p', hp', q', hq', e1, e2, e3⟩
      have ep := h.apart.eq hp' hp e1
      have eq := h.apart.eq hq' hqF (by rw [e2, hqn])
      rw [← ep, ← eq]
      exact e3
    · intro hw
      exact ⟨p, hp, q, hqF, rfl, hqn.symm, hw⟩
  have hBl : ∀ x ∈ B, ∃ p ∈ left, p.name = x ∧ waitsS p q there = true := fun x hx => by
    obtain ⟨p, hp, q', hq', e1, e2, e3⟩ := (hB x).1 hx
    have eq := h.apart.eq hq' hqF (by rw [e2, hqn])
    subst eq
    refine ⟨p, ?_, e1, e3⟩
    exact Classical.byContradiction (fun hpl => by
      have := (h.gone p hp hpl).2 q' hq
      rw [this] at e3
      cases e3)
  have hless : ∀ p, waitN left there p = waitN (left.filter fun p => p.name != n) there p + (if waitsS p q there = true then 1 else 0) := fun p => by rw [waitN_less h.aleft hq p, ← hqn]
  have hmem : ∀ p, p ∈ left.filter (fun p => p.name != n) ↔ p ∈ left ∧ p.name ≠ n := fun p => by rw [List.mem_filter]; simp
  have hB1 : ∀ x ∈ B, 1 ≤ c x := fun x hx => by
    obtain ⟨p, hp, rfl, hw⟩ := hBl x hx
    rw [h.cnt p hp, hless p, if_pos hw]
    omega
  have hcq : c n = 0 := by rw [hqn, h.cnt q hq]; exact waitN_zero.2 hqf
  have hnB : n ∉ B := fun hh => by have := hB1 n hh; omega
  have hcnt' : ∀ p ∈ left, less1 c B p.name = waitN (left.filter fun p => p.name != n) there p := fun p hp => by
    have h1 := hless p
    have h2 := h.cnt p hp
    unfold less1
    by_cases hw : waitsS p q there = true
    · rw [if_pos ((hB' p (h.sub p hp)).2 hw), h2, h1, if_pos hw]
      omega
    · rw [if_neg (fun hh => hw ((hB' p (h.sub p hp)).1 hh)), h2, h1, if_neg hw]
      omega
  have hready : readyS left there = n := Rising.min h.rising (ready_min there (fun p hp => h.named p (h.sub p hp))) h.free
  have hnn : n ≠ [] := by rw [hqn]; exact h.named q hqF
  refine ⟨hB1, ⟨fun p hp => h.sub p ((hmem p).1 hp).1, h.apart, h.aleft.filter _, h.named, fun p hp hpl => ?_, fun p hp => hcnt' p ((hmem p).1 hp).1, ?_, fun x => ?_, ?_⟩⟩
  · by_cases hl : p ∈ left
    · have hpn : p.name = n := Decidable.byContradiction (fun hne => hpl ((hmem p).2 ⟨hl, hne⟩))
      have ep := h.aleft.eq hl hq (by rw [hpn, hqn])
      subst ep
      refine ⟨?_, fun q' hq' => hqf q' ((hmem q').1 hq').1⟩
      unfold less1
      rw [hpn, if_neg hnB]
      exact hcq
    · obtain ⟨h1, h2⟩ := h.gone p hp hl
      refine ⟨?_, fun q' hq' => h2 q' ((hmem q').1 hq').1⟩
      unfold less1
      split <;> omega
  · refine insAll_rising _ _ hr'.2 (hnd.filter _) (fun y hy hyr => ?_)
    unfold freedS at hy
    rw [List.mem_filter] at hy
    obtain ⟨p, hp, hpf, rfl⟩ := (h.free y).1 (by simp [hyr])
    have h1 := h.cnt p hp
    rw [waitN_zero.2 hpf] at h1
    have h2 := hy.2
    rw [h1] at h2
    simp at h2
  · rw [insAll_mem]
    constructor
    · rintro (hx | hx)
      · unfold freedS at hx
        rw [List.mem_filter] at hx
        obtain ⟨p, hp, rfl, hw⟩ := hBl x hx.1
        have hne : p.name ≠ n := fun e => hnB (by rw [← e]; exact hx.1)
        refine ⟨p, (hmem p).2 ⟨hp, hne⟩, waitN_zero.1 ?_, rfl⟩
        have h1 := hless p
        have h2 := h.cnt p hp
        have h3 : c p.name = 1 := by simpa using hx.2
        rw [if_pos hw] at h1
        omega
      · obtain ⟨p, hp, hpf, rfl⟩ := (h.free x).1 (by simp [hx])
        have hne : p.name ≠ n := fun e => hnr (by rw [← e]; exact hx)
        exact ⟨p, (hmem p).2 ⟨hp, hne⟩, fun q' hq' => hpf q' ((hmem q').1 hq').1, rfl⟩
    · rintro ⟨p, hp, hpf, rfl⟩
      obtain ⟨hp, hne⟩ := (hmem p).1 hp
      have h1 := hless p
      rw [waitN_zero.2 hpf] at h1
      by_cases hw : waitsS p q there = true
      · left
        unfold freedS
        rw [List.mem_filter]
        refine ⟨(hB' p (h.sub p hp)).2 hw, ?_⟩
        rw [if_pos hw] at h1
        rw [h.cnt p hp, h1]
        rfl
      · right
        rw [if_neg hw] at h1
        have := (h.free p.name).2 ⟨p, hp, waitN_zero.1 (by omega), rfl⟩
        rcases List.mem_cons.1 this with e | e
        · exact absurd e hne
        · exact e
  · rw [h.order]
    exact order_next h.aleft hready hnn
theorem Kahn.stop {there fresh left : List Pk} {done : List (List UInt8)} {c : List UInt8 → Nat} (h : Kahn there fresh left done [] c) :
    orderS there fresh.length fresh [] = (done, left) ∧ ∀ p ∈ fresh, 0 < c p.name ↔ p ∈ left := by
  have hready : readyS left there = [] := Rising.none (ready_min there (fun p hp => h.named p (h.sub p hp))) (fun x hx => by
    have := (h.free x).2 hx
    cases this)
  refine ⟨?_, fun p hp => ?_⟩
  · rw [h.order]
    cases hl : left.length with
    | zero => rfl
    | succ k =>
      unfold orderS
      rw [if_pos hready]
  · constructor
    · intro hc
      exact Classical.byContradiction (fun hl => by have := (h.gone p hp hl).1; omega)
    · intro hl
      rw [h.cnt p hl]
      exact Nat.pos_of_ne_zero (fun e => by
        have := (h.free p.name).2 ⟨p, hl, waitN_zero.1 e, rfl⟩
        cases this)
end Go.Proofs.YtgnfknjopafngaaGreatDoor
/-
  PURE: what the program counts is what the document counts; the names to begin with.
-/
namespace Go.Proofs.YtgnfknjopafngaaGreatDoor
open M

theorem nodup_fst {E : List (List UInt8 × List UInt8)} (h : E.Nodup) (x : List UInt8) : ((E.filter fun e => e.2 == x).map Prod.fst).Nodup := by
  unfold List.Nodup
  rw [List.pairwise_map]
  refine (h.filter _).imp_of_mem (fun {a b} ha hb hab e => hab ?_)
  have h1 : a.2 = x := by simpa using (List.mem_filter.1 ha).2
  have h2 : b.2 = x := by simpa using (List.mem_filter.1 hb).2
  exact Prod.ext e (h1.trans h2.symm)
theorem nodup_snd {E : List (List UInt8 × List UInt8)} (h : E.Nodup) (x : List UInt8) : ((E.filter fun e => e.1 == x).map Prod.snd).Nodup := by
  unfold List.Nodup
  rw [List.pairwise_map]
  refine (h.filter _).imp_of_mem (fun {a b} ha hb hab e => hab ?_)
  have h1 : a.1 = x := by simpa using (List.mem_filter.1 ha).2
  have h2 : b.1 = x := by simpa using (List.mem_filter.1 hb).2
  exact Prod.ext (h1.trans h2.symm) e
theorem row_nodup {E : List (List UInt8 × List UInt8)} (h : E.Nodup) (x : List UInt8) : (rowE E x).Nodup := nodup_fst h x
theorem row_mem {there fresh : List Pk} {E : List (List UInt8 × List UInt8)} (h : ∀ e, e ∈ E ↔ WaitE there fresh e) (n x : List UInt8) : x ∈ rowE E n ↔ ∃ p ∈ fresh, ∃ q ∈ fresh, p.name = x ∧ q.name = n ∧ waitsS p q there = true := by
  refine Iff.trans ?_ (h (x, n))
  unfold rowE
  rw [List.mem_map]
  constructor
  · rintro ⟨e, he, rfl⟩
    obtain ⟨h1, h2⟩ := List.mem_filter.1 he
    have : e.2 = n := by simpa using h2
    subst this
    exact h1
  · intro he
    exact ⟨(x, n), List.mem_filter.2 ⟨he, by simp⟩, rfl⟩
theorem cnt_is {there fresh : List Pk} {E : List (List UInt8 × List UInt8)} (hn : E.Nodup) (h : ∀ e, e ∈ E ↔ WaitE there fresh e) (ha : Apart fresh) {p : Pk} (hp : p ∈ fresh) : cntE E p.name = waitN fresh there p := by
  have hm : ∀ x, x ∈ (E.filter fun e => e.1 == p.name).map Prod.snd ↔ x ∈ (fresh.filter fun q => waitsS p q there).map Pk.name := fun x => by
    rw [List.mem_map, List.mem_map]
    constructor
    · rintro ⟨e, he, rfl⟩
      obtain ⟨h1, h2⟩ := List.mem_filter.1 he
      have h2 : e.1 = p.name := by simpa using h2
      obtain ⟨p', hp', q, hq, e1, e2, e3⟩ := (h e).1 h1
      have ep := ha.eq hp' hp (by rw [e1, h2])
      subst ep
      exact ⟨q, List.mem_filter.2 ⟨hq, e3⟩, e2⟩
    · rintro ⟨q, hq, rfl⟩
      obtain ⟨h1, h2⟩ := List.mem_filter.1 hq
      exact ⟨(p.name, q.name), List.mem_filter.2 ⟨(h _).2 ⟨p, hp, q, h1, rfl, rfl, h2⟩, by simp⟩, rfl⟩
  have n1 := nodup_snd hn p.name
  have n2 : ((fresh.filter fun q => waitsS p q there).map Pk.name).Nodup := (ha.filter fun q => waitsS p q there)
  have l1 := nodup_le n1 (fun x hx => (hm x).1 hx)
  have l2 := nodup_le n2 (fun x hx => (hm x).2 hx)
  rw [List.length_map, List.length_map] at l1 l2
  unfold cntE waitN
  omega
theorem ready_start {there fresh : List Pk} {names : List (List UInt8)} {c : List UInt8 → Nat} (hr : Rising names) (hm : ∀ x, x ∈ names ↔ ∃ p ∈ fresh, p.name = x) (hc : ∀ p ∈ fresh, c p.name = waitN fresh there p) :
    Rising (freeS c names) ∧ ∀ x, x ∈ freeS c names ↔ ∃ p ∈ fresh, Free fresh there p ∧ x = p.name := by
  refine ⟨List.Pairwise.filter _ hr, fun x => ?_⟩
  unfold freeS
  rw [List.mem_filter, hm]
  constructor
  · rintro ⟨⟨p, hp, rfl⟩, h0⟩
    have h0 : c p.name = 0 := by simpa using h0
    exact ⟨p, hp, waitN_zero.1 (by rw [← hc p hp]; exact h0), rfl⟩
  · rintro ⟨p, hp, hf, rfl⟩
    refine ⟨⟨p, hp, rfl⟩, ?_⟩
    rw [hc p hp, waitN_zero.2 hf]
    rfl
end Go.Proofs.YtgnfknjopafngaaGreatDoor
/-
  PURE: what order's last look says: all are set up, or the first by name of those that are left.
-/
namespace Go.Proofs.YtgnfknjopafngaaGreatDoor
open M

theorem Kahn.all {there fresh left : List Pk} {done names : List (List UInt8)} {c : List UInt8 → Nat} (h : Kahn there fresh left done [] c) (hm : ∀ x, x ∈ names ↔ ∃ p ∈ fresh, p.name = x) (h0 : ∀ x ∈ names, c x = 0) :
    orderS there fresh.length fresh [] = (done, []) := by
  obtain ⟨h1, h2⟩ := h.stop
  have e : left = [] := List.eq_nil_iff_forall_not_mem.2 (fun p hp => by
    have k1 := (h2 p (h.sub p hp)).2 hp
    have k2 := h0 p.name ((hm _).2 ⟨p, h.sub p hp, rfl⟩)
    omega)
  rw [h1, e]
theorem Kahn.stuck {there fresh left : List Pk} {done names : List (List UInt8)} {c : List UInt8 → Nat} (h : Kahn there fresh left done [] c) (hm : ∀ x, x ∈ names ↔ ∃ p ∈ fresh, p.name = x) (hr : Rising names) (j : Nat) (hj : j < names.length)
    (hc : 0 < c names[j]) (hb : ∀ k (hk : k < j), c names[k] = 0) : firstOf (orderS there fresh.length fresh []).2 = names[j] ∧ names[j] ≠ [] := by
  obtain ⟨h1, h2⟩ := h.stop
  have hmin := firstOf_min (l := left) (fun p hp => h.named p (h.sub p hp))
  obtain ⟨p, hp, hpn⟩ := (hm names[j]).1 (List.getElem_mem hj)
  have hpl : p ∈ left := (h2 p hp).1 (by rw [hpn]; exact hc)
  refine ⟨?_, by rw [← hpn]; exact h.named p hp⟩
  rw [h1]
  refine hmin.unique ⟨hmin.1, .inr ⟨⟨p, hpl, hpn.symm⟩, ?_⟩⟩
  rintro x ⟨q, hq, rfl⟩
  have hqc := (h2 q (h.sub q hq)).2 hq
  obtain ⟨k, hk, e⟩ := List.getElem_of_mem ((hm q.name).2 ⟨q, h.sub q hq, rfl⟩)
  rw [← e] at hqc ⊢
  rcases Nat.lt_trichotomy k j with hlt | rfl | hlt
  · have := hb k hlt
    omega
  · exact less_irrefl _
  · exact less_asymm (List.pairwise_iff_getElem.1 hr j k hj hk hlt)
/-- The order, as a call answers it. -/
def orderR (there fresh : List Pk) : Sum Fa (List (List UInt8)) :=
  if firstOf (orderS there fresh.length fresh []).2 ≠ [] then .inl ⟨7, 0, 0, firstOf (orderS there fresh.length fresh []).2⟩ else .inr (orderS there fresh.length fresh []).1
theorem orderR_all {there fresh : List Pk} {done : List (List UInt8)} (h : orderS there fresh.length fresh [] = (done, [])) : orderR there fresh = .inr done := by
  unfold orderR
  rw [h]
  rfl
theorem orderR_stuck {there fresh : List Pk} {n : List UInt8} (h : firstOf (orderS there fresh.length fresh []).2 = n) (hn : n ≠ []) : orderR there fresh = .inl ⟨7, 0, 0, n⟩ := by
  unfold orderR
  rw [h, if_pos hn]
theorem sorted_mem {fresh : List Pk} (x : List UInt8) : x ∈ sortN (fresh.map Pk.name) ↔ ∃ p ∈ fresh, p.name = x := by
  rw [(sortN_perm _).mem_iff, List.mem_map]
end Go.Proofs.YtgnfknjopafngaaGreatDoor
